/-
  Crashes, plainly: what was written, and what is read of it.
  Crashes, plainly: all that is read is a beginning of what was appended.
  Crashes, plainly: what a flush, a crash leave; the state that is kept.
  Crashes, plainly: the state that is kept; Append, Sync.
  Crashes, plainly: a superblock more; Trim.
  Crashes, plainly: a crash, and Open behind it.
  A journal on a new device.
  Crashes: the state on a new device.
  Same.
  A log of transactions in memory; SameTx.
  A copy of the device.
  Crash, its list lying apart; what the walk of JournalCrashes needs besides.
-/
import Derived.Test.YtgodlfoidjeekaaM10
import Derived.Test.YtgodlfoidjeekaaM07
import Derived.Deep.AppendSrc
import Derived.Test.YtgodlfoidjeekaaM03
namespace Go.Proofs.Ytgodlfoidjeekaa
set_option linter.unusedVariables false
set_option linter.unusedSimpArgs false
open Go.RowKit
set_option linter.unusedVariables false
set_option linter.unusedSimpArgs false

/-- A transaction that was written: boot, serial, position, number, bytes. -/
structure Tr where
  b : Nat
  s : Nat
  p : Nat
  l : Nat
  x : List UInt8
def Tr.n (t : Tr) : Nat := nP t.x.length
def Tr.e (t : Tr) (i : Nat) : List UInt8 := enB t.b t.s (t.p + i) t.l i t.n (pieceL t.x i).length (pieceL t.x i)
def Tr.m (t : Tr) : Mk := ⟨t.p + t.n, t.b, t.s⟩
structure Tr.Ok (t : Tr) : Prop where
  tx : gtB t.x = true
  b : 0 < t.b ∧ t.b ≤ 1000
  s : 0 < t.s ∧ t.s ≤ 1000
  p : t.p ≤ 1000000
  l : 0 < t.l ∧ t.l ≤ 1000
theorem Tr.Ok.n {t : Tr} (h : t.Ok) : 1 ≤ t.n ∧ t.n ≤ 74 ∧ t.x.length ≤ 336 * t.n ∧ 336 * t.n < t.x.length + 336 := by
  obtain ⟨⟨h1, h2⟩, h3, -⟩ := gt_of h.tx
  unfold Tr.n nP
  omega
theorem Tr.Ok.piece {t : Tr} (h : t.Ok) {i : Nat} (hi : i < t.n) : 1 ≤ (pieceL t.x i).length ∧ (pieceL t.x i).length ≤ 336 := by
  have h1 := h.n
  have : (pieceL t.x i).length = min 336 (t.x.length - 336 * i) := by unfold pieceL; rw [List.length_take, List.length_drop]
  omega
theorem Tr.Ok.cb {t : Tr} (h : t.Ok) {i : Nat} (hi : i < t.n) : cbB t.b t.s (t.p + i) t.l (i : Int) (t.n : Int) (pieceL t.x i).length = true := by
  have h1 := h.n
  have h2 := h.piece hi
  have h3 := h.b
  have h4 := h.s
  have h5 := h.p
  have h6 := h.l
  unfold cbB wiB
  simp only [List.all_cons, List.all_nil, Bool.and_eq_true, decide_eq_true_eq]
  refine ⟨⟨⟨⟨⟨⟨⟨⟨⟨by omega, by omega⟩, by omega⟩, by omega, by omega, by omega, by omega, trivial⟩, by omega⟩, by omega⟩, by omega⟩, by omega⟩, by omega⟩, by omega⟩
theorem Tr.dec {t : Tr} (h : t.Ok) {i : Nat} (hi : i < t.n) : enG (t.e i) = some ⟨t.b, t.s, t.p + i, t.l, i, t.n, pieceL t.x i⟩ := enG_enB (h.cb hi)
theorem Tr.e_len {t : Tr} (h : t.Ok) {i : Nat} (hi : i < t.n) : (t.e i).length = 384 := enB_length (h.piece hi).2
theorem take_piece (x : List UInt8) (k : Nat) : x.take (336 * (k + 1)) = x.take (336 * k) ++ pieceL x k := by
  unfold pieceL
  rw [show 336 * (k + 1) = 336 * k + 336 by omega, List.take_add]
theorem Tr.Ok.take {t : Tr} (h : t.Ok) : t.x.take (336 * t.n) = t.x := List.take_of_length_le h.n.2.2.1
/-- A stamp behind another one. -/
def later (b s : Nat) (t : Tr) : Prop := b < t.b ∨ t.b = b ∧ s < t.s
/-- Where its part i lies. -/
def Tr.at (t : Tr) (R i : Nat) : Nat := 2 + (t.p + i) % R
/-- What lies in the blocks was written, or is none. -/
structure Bk (c R : Nat) (S : List (List UInt8)) (T : List Tr) : Prop where
  ok : ∀ t ∈ T, t.Ok
  one : ∀ t ∈ T, ∀ u ∈ T, t.b = u.b → t.s = u.s → t = u
  blk : ∀ a, 2 ≤ a → a < c → enG (S.getD a []) = none ∨ ∃ t ∈ T, ∃ i, i < t.n ∧ a = t.at R i ∧ S.getD a [] = t.e i
theorem rdB_nil {D : Dv} (h : D.Q = []) (a : Nat) : rdB D a = D.S.getD a [] := by
  unfold rdB
  rw [h]
  rfl
theorem enR_of {l : List UInt8} (h : 1 ≤ (enR l).l) : enG l = some (enR l) := by
  unfold enR at h ⊢
  cases e : enG l with
  | none => rw [e] at h; simp [en0] at h
  | some E => rfl
section
variable {c R : Nat} {J : Jn} {D : Dv} {T : List Tr}
theorem blk_at (hf : J.first = 0) (hR : J.ring = R) (hc : R + 2 = c) (h4 : 4 ≤ R) (p : Nat) : J.blk p = 2 + p % R ∧ 2 ≤ 2 + p % R ∧ 2 + p % R < c := by
  have := Nat.mod_lt p (show 0 < R by omega)
  unfold Jn.blk
  rw [hf, hR]
  omega
/-- What is read was written, and lies there whole. -/
theorem rt_some (hB : Bk c R D.S T) (hQ : D.Q = []) (hf : J.first = 0) (hR : J.ring = R) (hc : R + 2 = c) (h4 : 4 ≤ R) {p : List UInt8} (h : rtX J D = some p) :
    ∃ t ∈ T, t.p = J.nd ∧ t.l = J.lst + 1 ∧ later J.last.b J.last.s t ∧ (∀ i, i < t.n → D.S.getD (t.at R i) [] = t.e i) ∧ p = t.x ∧ rtJ J D = J.more t.m := by
  unfold rtX at h
  split at h
  case isFalse => simp at h
  rename_i hfl
  split at h
  case h_2 => simp at h
  rename_i q hq
  split at h
  case isFalse => simp at h
  rename_i hg
  simp only [Option.some.injEq] at h
  subst h
  have hfl2 := hfl
  unfold flwB flw3 ltB at hfl2
  simp only [Bool.and_eq_true, Bool.or_eq_true, decide_eq_true_eq] at hfl2
  obtain ⟨⟨⟨⟨⟨f1, f2⟩, f3⟩, f4⟩, f5⟩, f6⟩ := hfl2
  have hrd : ∀ a, rdB D a = D.S.getD a [] := rdB_nil hQ
  have hE := enR_of (l := rdB D (J.blk J.nd)) (by show 1 ≤ (rtH J D).l; omega)
  obtain ⟨b1, b2, b3⟩ := blk_at hf hR hc h4 J.nd
  obtain ⟨t, ht, i, hi, ha, hS⟩ : ∃ t ∈ T, ∃ i, i < t.n ∧ 2 + J.nd % R = t.at R i ∧ D.S.getD (2 + J.nd % R) [] = t.e i := by
    rcases hB.blk _ b2 b3 with e | e
    · rw [hrd, b1] at hE
      rw [e] at hE
      simp at hE
    · exact e
  have ok := hB.ok t ht
  have hd := Tr.dec ok hi
  have hE2 : (rtH J D) = ⟨t.b, t.s, t.p + i, t.l, i, t.n, pieceL t.x i⟩ := by
    have e1 : enG (t.e i) = some (rtH J D) := by
      rw [← hS, ← b1, ← hrd]
      exact hE
    rw [hd] at e1
    simpa using e1.symm
  have hi0 : i = 0 := by rw [hE2] at f5; exact f5
  subst hi0
  have hp : t.p = J.nd := by rw [hE2] at f1; simpa using f1
  have hl : t.l = J.lst + 1 := by rw [hE2] at f2; exact f2
  have key : ∀ k, k < t.n → ∀ q, rtP J D (rtH J D) k = some q → q = t.x.take (336 * (k + 1)) ∧ ∀ i, i ≤ k → D.S.getD (t.at R i) [] = t.e i := by
    intro k
    induction k with
    | zero =>
      intro _ q hq
      simp only [rtP, Option.some.injEq] at hq
      subst hq
      rw [hE2]
      refine ⟨by rw [take_piece]; simp, fun i hi => ?_⟩
      obtain rfl : i = 0 := by omega
      unfold Tr.at
      rw [Nat.add_zero, hp]
      exact hS
    | succ k ih =>
      intro hk q hq
      unfold rtP at hq
      split at hq
      · simp at hq
      · rename_i q' hq'
        split at hq
        case isFalse => simp at hq
        rename_i hgo
        simp only [Option.some.injEq] at hq
        subst hq
        obtain ⟨i1, i2⟩ := ih (by omega) q' hq'
        unfold goB at hgo
        simp only [Bool.and_eq_true, decide_eq_true_eq] at hgo
        obtain ⟨⟨⟨⟨⟨g1, g2⟩, g3⟩, g4⟩, g5⟩, g6⟩ := hgo
        have hF := enR_of (l := rdB D (J.blk (J.nd + (k + 1)))) (by rw [g6, hE2]; show 1 ≤ t.l; omega)
        obtain ⟨c1, c2, c3⟩ := blk_at hf hR hc h4 (J.nd + (k + 1))
        obtain ⟨u, hu, j, hj, ha', hS'⟩ : ∃ u ∈ T, ∃ j, j < u.n ∧ 2 + (J.nd + (k + 1)) % R = u.at R j ∧ D.S.getD (2 + (J.nd + (k + 1)) % R) [] = u.e j := by
          rcases hB.blk _ c2 c3 with e | e
          · rw [hrd, c1] at hF
            rw [e] at hF
            simp at hF
          · exact e
        have hdu := Tr.dec (hB.ok u hu) hj
        have hF2 : enR (rdB D (J.blk (J.nd + (k + 1)))) = ⟨u.b, u.s, u.p + j, u.l, j, u.n, pieceL u.x j⟩ := by
          have e1 : enG (u.e j) = some (enR (rdB D (J.blk (J.nd + (k + 1))))) := by
            rw [← hS', ← c1, ← hrd]
            exact hF
          rw [hdu] at e1
          simpa using e1.symm
        rw [hF2] at g2 g4 g5
        rw [hE2] at g4 g5
        have hut : u = t := hB.one u hu t ht g4 g5
        have hjk : j = k + 1 := g2
        subst hut hjk
        refine ⟨by rw [hF2, i1, ← take_piece], fun i hi => ?_⟩
        by_cases e : i ≤ k
        · exact i2 i e
        · obtain rfl : i = k + 1 := by omega
          unfold Tr.at
          rw [hp]
          exact hS'
  have hn := ok.n
  have hps : (rtH J D).ps = t.n := by rw [hE2]
  rw [hps] at hq
  obtain ⟨k1, k2⟩ := key (t.n - 1) (by omega) q hq
  rw [show t.n - 1 + 1 = t.n by omega, ok.take] at k1
  refine ⟨t, ht, hp, hl, ?_, fun i hi => k2 i (by omega), k1, ?_⟩
  · rw [hE2] at f3
    rcases f3 with e | e
    · exact .inl e
    · exact .inr e
  · unfold rtJ
    rw [hE2]
    show J.more ⟨J.nd + t.n, t.b, t.s⟩ = J.more t.m
    unfold Tr.m
    rw [hp]
/-- What lies there whole is read. -/
theorem rt_yes (hQ : D.Q = []) (hf : J.first = 0) (hR : J.ring = R) (hc : R + 2 = c) (h4 : 4 ≤ R) {t : Tr} (ok : t.Ok) (hp : t.p = J.nd) (hl : t.l = J.lst + 1) (hlt : later J.last.b J.last.s t) (hb : t.b ≤ J.sup.b) (hn : t.n ≤ J.room) (hS : ∀ i, i < t.n → D.S.getD (t.at R i) [] = t.e i) :
    rtX J D = some t.x ∧ rtJ J D = J.more t.m := by
  have hrd : ∀ a, rdB D a = D.S.getD a [] := rdB_nil hQ
  have hnn := ok.n
  have hen : ∀ i, i < t.n → enR (rdB D (J.blk (J.nd + i))) = ⟨t.b, t.s, t.p + i, t.l, i, t.n, pieceL t.x i⟩ := fun i hi => by
    obtain ⟨b1, -, -⟩ := blk_at hf hR hc h4 (J.nd + i)
    have h1 := hS i hi
    unfold Tr.at at h1
    rw [hp] at h1
    unfold enR
    rw [hrd, b1, h1, Tr.dec ok hi]
    rfl
  have hE : rtH J D = ⟨t.b, t.s, t.p + 0, t.l, 0, t.n, pieceL t.x 0⟩ := hen 0 (by omega)
  have hfl : flwB J (rtH J D) = true := by
    rw [hE]
    unfold flwB flw3 ltB
    simp only [Bool.and_eq_true, Bool.or_eq_true, decide_eq_true_eq]
    refine ⟨⟨⟨⟨⟨by omega, hl⟩, ?_⟩, hb⟩, trivial⟩, hn⟩
    rcases hlt with e | e
    · exact .inl e
    · exact .inr e
  have key : ∀ k, k < t.n → rtP J D (rtH J D) k = some (t.x.take (336 * (k + 1))) := by
    intro k
    induction k with
    | zero => intro _; unfold rtP; rw [hE, take_piece]; simp
    | succ k ih =>
      intro hk
      unfold rtP
      rw [ih (by omega)]
      dsimp only
      rw [hen (k + 1) hk, if_pos]
      · rw [take_piece t.x (k + 1)]
      · rw [hE]
        unfold goB
        simp
  have hk := key (t.n - 1) (by omega)
  rw [show t.n - 1 + 1 = t.n by omega, ok.take] at hk
  have hps : (rtH J D).ps = t.n := by rw [hE]
  refine ⟨?_, ?_⟩
  · unfold rtX
    rw [if_pos hfl, hps, hk]
    dsimp only
    rw [if_pos ok.tx]
  · unfold rtJ
    rw [hE]
    show J.more ⟨J.nd + t.n, t.b, t.s⟩ = J.more t.m
    unfold Tr.m
    rw [hp]
end
end Go.Proofs.Ytgodlfoidjeekaa

namespace Go.Proofs.Ytgodlfoidjeekaa
set_option linter.unusedVariables false
set_option linter.unusedSimpArgs false
open Go.RowKit
set_option linter.unusedVariables false
set_option linter.unusedSimpArgs false

/-- Where the next one begins, the number and the stamp ahead of it. -/
structure Ed where
  p : Nat
  l : Nat
  b : Nat
  s : Nat
def Su.ed (u : Su) : Ed := ⟨u.p, u.l, u.x, u.y⟩
def Ed.step (q : Ed) (t : Tr) : Ed := ⟨q.p + t.n, q.l + 1, t.b, t.s⟩
def aft (q : Ed) (L : List Tr) : Ed := L.foldl Ed.step q
/-- One follows upon the other. -/
def chn : Ed → List Tr → Prop
  | _, [] => True
  | q, t :: r => t.p = q.p ∧ t.l = q.l + 1 ∧ later q.b q.s t ∧ chn (q.step t) r
theorem aft_append (q : Ed) (L M : List Tr) : aft q (L ++ M) = aft (aft q L) M := List.foldl_append
theorem chn_append (L : List Tr) : ∀ (q : Ed) (M : List Tr), chn q (L ++ M) ↔ chn q L ∧ chn (aft q L) M := by
  induction L with
  | nil => intro q M; simp [chn, aft]
  | cons t r ih =>
    intro q M
    show (_ ∧ _ ∧ _ ∧ chn (q.step t) (r ++ M)) ↔ (_ ∧ _ ∧ _ ∧ chn (q.step t) r) ∧ chn (aft (q.step t) r) M
    rw [ih]
    constructor
    · rintro ⟨a, b, c, d, e⟩; exact ⟨⟨a, b, c, d⟩, e⟩
    · rintro ⟨⟨a, b, c, d⟩, e⟩; exact ⟨a, b, c, d, e⟩
theorem aft_l (L : List Tr) : ∀ q : Ed, (aft q L).l = q.l + L.length := by
  induction L with
  | nil => intro q; rfl
  | cons t r ih => intro q; show (aft (q.step t) r).l = _; rw [ih]; show q.l + 1 + r.length = _; simp; omega
theorem aft_last (L : List Tr) (q : Ed) (t : Tr) (h : chn q L) (hl : L.getLast? = some t) : aft q L = ⟨t.p + t.n, q.l + L.length, t.b, t.s⟩ := by
  obtain ⟨M, rfl⟩ : ∃ M, L = M ++ [t] := by
    rw [List.getLast?_eq_some_iff] at hl
    exact hl
  rw [aft_append]
  rw [chn_append] at h
  have h2 := h.2.1
  show (aft q M).step t = _
  unfold Ed.step
  rw [aft_l, ← h2]
  simp
  omega
/-- The number tells the place. -/
theorem chn_num (L : List Tr) : ∀ (q : Ed), chn q L → ∀ t ∈ L, ∃ m, ∃ h : m < L.length, L[m] = t ∧ t.l = q.l + m + 1 := by
  induction L with
  | nil => intro q h t ht; simp at ht
  | cons a r ih =>
    intro q h t ht
    rcases List.mem_cons.1 ht with rfl | ht
    · exact ⟨0, by simp, rfl, h.2.1⟩
    · obtain ⟨m, hm, e1, e2⟩ := ih _ h.2.2.2 t ht
      exact ⟨m + 1, by simp; omega, by simpa using e1, by rw [e2]; show q.l + 1 + m + 1 = _; omega⟩
theorem chn_at (L : List Tr) (q : Ed) (h : chn q L) (k : Nat) (hk : k < L.length) : (L[k]).p = (aft q (L.take k)).p ∧ (L[k]).l = q.l + k + 1 ∧ later (aft q (L.take k)).b (aft q (L.take k)).s L[k] := by
  have e : L = L.take k ++ L.drop k := (List.take_append_drop k L).symm
  have h2 : chn q (L.take k ++ L.drop k) := by rw [← e]; exact h
  rw [chn_append, List.drop_eq_getElem_cons hk] at h2
  obtain ⟨-, h3, h4, h5, -⟩ := h2
  refine ⟨h3, ?_, h5⟩
  rw [h4, aft_l, List.length_take]
  omega
/-- The journal with these transactions. -/
def Jn.of (J : Jn) (L : List Tr) : Jn := { J with live := L.map Tr.m }
theorem of_last (J : Jn) (L : List Tr) (h : chn J.sup.ed L) : (J.of L).nd = (aft J.sup.ed L).p ∧ (J.of L).lst = (aft J.sup.ed L).l ∧ (J.of L).last.b = (aft J.sup.ed L).b ∧ (J.of L).last.s = (aft J.sup.ed L).s := by
  have h2 : (J.of L).lst = (aft J.sup.ed L).l := by
    rw [aft_l]
    show J.sup.l + (L.map Tr.m).length = _
    rw [List.length_map]
    rfl
  unfold Jn.nd Jn.last Jn.of
  dsimp only
  rw [List.getLast?_map]
  cases e : L.getLast? with
  | none =>
    have hL : L = [] := by simpa using e
    subst hL
    exact ⟨rfl, h2, rfl, rfl⟩
  | some t =>
    have := aft_last L _ t h e
    rw [this]
    refine ⟨rfl, ?_, rfl, rfl⟩
    rw [this] at h2
    exact h2
theorem of_more (J : Jn) (L : List Tr) (t : Tr) : (J.of L).more t.m = J.of (L ++ [t]) := by
  unfold Jn.more Jn.of
  simp
/-- Those that are no more, and stand where one of these could, do not lie there whole. -/
def Dead (R : Nat) (S : List (List UInt8)) (T : List Tr) (q : Ed) (L : List Tr) : Prop := ∀ t ∈ T, t ∉ L → ∀ k, k ≤ L.length → t.p = (aft q (L.take k)).p → t.l = q.l + k + 1 → later (aft q (L.take k)).b (aft q (L.take k)).s t → ∃ i, i < t.n ∧ S.getD (t.at R i) [] ≠ t.e i
section
variable {c R : Nat} {J : Jn} {D : Dv} {T L : List Tr}
theorem ra_prefix (hB : Bk c R D.S T) (hQ : D.Q = []) (hf : J.first = 0) (hR : J.ring = R) (hc : R + 2 = c) (h4 : 4 ≤ R) (hl0 : J.live = []) (hL : ∀ t ∈ L, t ∈ T) (hch : chn J.sup.ed L) (hd : Dead R D.S T J.sup.ed L) : ∀ n, ∃ k, k ≤ L.length ∧ k ≤ n ∧ raI J D n = (J.of (L.take k), (L.take k).map Tr.x) ∧ (k < n → rtX (J.of (L.take k)) D = none) ∧ ∀ m (hm : m < k), ∀ i, i < (L.getD m ⟨0, 0, 0, 0, []⟩).n → D.S.getD ((L.getD m ⟨0, 0, 0, 0, []⟩).at R i) [] = (L.getD m ⟨0, 0, 0, 0, []⟩).e i := by
  intro n
  induction n with
  | zero =>
    refine ⟨0, Nat.zero_le _, Nat.le_refl _, ?_, fun h => by omega, fun m hm => by omega⟩
    show (J, []) = _
    have : J.of (L.take 0) = J := by unfold Jn.of; simp [← hl0]
    rw [this]
    simp
  | succ n ih =>
    obtain ⟨k, hk, hkn, e, hst, hwh⟩ := ih
    have hchk : chn J.sup.ed (L.take k) := by
      have h2 : chn J.sup.ed (L.take k ++ L.drop k) := by rw [List.take_append_drop]; exact hch
      exact ((chn_append _ _ _).1 h2).1
    obtain ⟨o1, o2, o3, o4⟩ := of_last J (L.take k) hchk
    have hstep : raI J D (n + 1) = (match rtX (raI J D n).1 D with | some p => (rtJ (raI J D n).1 D, (raI J D n).2 ++ [p]) | none => raI J D n) := rfl
    rw [hstep, e]
    dsimp only
    cases hx : rtX (J.of (L.take k)) D with
    | none => exact ⟨k, hk, by omega, rfl, fun _ => hx, hwh⟩
    | some p =>
      have hkn' : k = n := by
        rcases Nat.lt_or_ge k n with h | h
        · rw [hst h] at hx; simp at hx
        · omega
      obtain ⟨t, ht, t1, t2, t3, t4, rfl, t6⟩ := rt_some (J := J.of (L.take k)) hB hQ hf hR hc h4 hx
      rw [o1] at t1
      rw [o2, aft_l, List.length_take] at t2
      rw [o3, o4] at t3
      have hmin : min k L.length = k := by omega
      rw [hmin] at t2
      by_cases hm : t ∈ L
      · obtain ⟨m, hml, e1, e2⟩ := chn_num L _ hch t hm
        have hmk : m = k := by omega
        subst hmk
        have ht : L.take (m + 1) = L.take m ++ [t] := by rw [List.take_succ_eq_append_getElem hml, e1]
        refine ⟨m + 1, hml, by omega, ?_, fun h => by omega, fun j hj => ?_⟩
        · rw [t6, of_more, ht, List.map_append]
          rfl
        · by_cases hjm : j < m
          · exact hwh j hjm
          · obtain rfl : j = m := by omega
            have : L.getD j ⟨0, 0, 0, 0, []⟩ = t := by rw [← e1]; simp [hml]
            rw [this]
            exact t4
      · obtain ⟨i, hi, hne⟩ := hd t ht hm k hk t1 t2 t3
        exact absurd (t4 i hi) hne
theorem of_len (J : Jn) (L : List Tr) : (J.of L).live.length = L.length := by unfold Jn.of; simp
/-- All of the reading. -/
theorem ra_all {n : Nat} (ok : J.Ok n) (hB : Bk c R D.S T) (hQ : D.Q = []) (hf : J.first = 0) (hR : J.ring = R) (hc : R + 2 = c) (h4 : 4 ≤ R) (hl0 : J.live = []) (hL : ∀ t ∈ L, t ∈ T) (hch : chn J.sup.ed L) (hd : Dead R D.S T J.sup.ed L) : ∃ k, k ≤ L.length ∧ raR J D = (J.of (L.take k), (L.take k).map Tr.x) ∧ rtX (J.of (L.take k)) D = none ∧ ∀ m (hm : m < k), ∀ i, i < (L.getD m ⟨0, 0, 0, 0, []⟩).n → D.S.getD ((L.getD m ⟨0, 0, 0, 0, []⟩).at R i) [] = (L.getD m ⟨0, 0, 0, 0, []⟩).e i := by
  obtain ⟨k, hk, hkn, e, hst, hwh⟩ := ra_prefix hB hQ hf hR hc h4 hl0 hL hch hd (J.ring + 1)
  refine ⟨k, hk, e, hst ?_, hwh⟩
  have h1 := (raI_ok ok (D := D) (J.ring + 1))
  have h2 := live_ring h1.1
  rw [h1.2.1, e, of_len, List.length_take] at h2
  omega
/-- What is whole is read. -/
theorem ra_whole {k m : Nat} (ok : ∀ t ∈ L, t.Ok) (hB : Bk c R D.S T) (hQ : D.Q = []) (hf : J.first = 0) (hR : J.ring = R) (hc : R + 2 = c) (h4 : 4 ≤ R) (hch : chn J.sup.ed L) (hb : ∀ t ∈ L, t.b ≤ J.sup.b) (hr : (aft J.sup.ed L).p ≤ J.sup.p + R) (hk : k ≤ L.length) (hst : rtX (J.of (L.take k)) D = none) (hm : m ≤ L.length)
    (hw : ∀ j (hj : j < L.length), j < m → ∀ i, i < (L[j]).n → D.S.getD ((L[j]).at R i) [] = (L[j]).e i) : m ≤ k := by
  rcases Nat.lt_or_ge k m with h | h
  · exfalso
    have hkl : k < L.length := by omega
    have hchk : chn J.sup.ed (L.take k) := by
      have h2 : chn J.sup.ed (L.take k ++ L.drop k) := by rw [List.take_append_drop]; exact hch
      exact ((chn_append _ _ _).1 h2).1
    obtain ⟨o1, o2, o3, o4⟩ := of_last J (L.take k) hchk
    obtain ⟨c1, c2, c3⟩ := chn_at L _ hch k hkl
    have hmono : ∀ (M : List Tr) (q : Ed), q.p ≤ (aft q M).p := by
      intro M
      induction M with
      | nil => intro q; exact Nat.le_refl _
      | cons t r ih => intro q; exact Nat.le_trans (show q.p ≤ q.p + t.n by omega) (ih (q.step t))
    have hroom : (L[k]).n ≤ (J.of (L.take k)).room := by
      have e : aft J.sup.ed L = aft ((aft J.sup.ed (L.take k)).step L[k]) (L.drop (k + 1)) := by
        conv => lhs; rw [← List.take_append_drop k L, aft_append, List.drop_eq_getElem_cons hkl]
        rfl
      have h1 := hmono (L.drop (k + 1)) ((aft J.sup.ed (L.take k)).step L[k])
      rw [← e] at h1
      have h2 : (aft J.sup.ed (L.take k)).p + (L[k]).n ≤ J.sup.p + R := Nat.le_trans h1 hr
      have h3 := hmono (L.take k) J.sup.ed
      have h3' : J.sup.p ≤ (aft J.sup.ed (L.take k)).p := h3
      show _ ≤ J.ring - ((J.of (L.take k)).nd - J.sup.p)
      rw [o1, hR]
      omega
    have := rt_yes (J := J.of (L.take k)) hQ hf hR hc h4 (ok _ (List.getElem_mem hkl)) (by rw [o1]; exact c1) (by rw [o2, aft_l, List.length_take, c2, show min k L.length = k by omega]) (by rw [o3, o4]; exact c3) (hb _ (List.getElem_mem hkl)) hroom (hw k hkl h)
    rw [this.1] at hst
    simp at hst
  · exact h
end
end Go.Proofs.Ytgodlfoidjeekaa

namespace Go.Proofs.Ytgodlfoidjeekaa
set_option linter.unusedVariables false
set_option linter.unusedSimpArgs false
open Go.RowKit
set_option linter.unusedVariables false
set_option linter.unusedSimpArgs false

theorem getD_set_eq {l : List (List UInt8)} {a : Nat} (h : a < l.length) (v : List UInt8) : (l.set a v).getD a [] = v := by simp [List.getD, h]
theorem getD_set_ne2 {l : List (List UInt8)} {a b : Nat} (h : b ≠ a) (v : List UInt8) : (l.set b v).getD a [] = l.getD a [] := by simp [List.getD, List.getElem?_set_ne h]
/-- Of writes in a row: a block has what it had, or what one of them says. -/
theorem foldl_any (Q : List (Nat × List UInt8)) : ∀ (S : List (List UInt8)) (a : Nat), (Q.foldl (fun S q => S.set q.1 q.2) S).getD a [] = S.getD a [] ∨ ∃ q ∈ Q, q.1 = a ∧ (Q.foldl (fun S q => S.set q.1 q.2) S).getD a [] = q.2 := by
  induction Q with
  | nil => intro S a; exact .inl rfl
  | cons x r ih =>
    intro S a
    rcases ih (S.set x.1 x.2) a with e | ⟨q, hq, h1, h2⟩
    · by_cases h : x.1 = a
      · by_cases hl : a < S.length
        · right
          refine ⟨x, by simp, h, ?_⟩
          show (r.foldl _ (S.set x.1 x.2)).getD a [] = _
          rw [e, h, getD_set_eq hl]
        · left
          show (r.foldl _ (S.set x.1 x.2)).getD a [] = _
          rw [e]
          have : S.set x.1 x.2 = S := by rw [h]; exact List.set_eq_of_length_le (by omega)
          rw [this]
      · left
        show (r.foldl _ (S.set x.1 x.2)).getD a [] = _
        rw [e, getD_set_ne2 h]
    · exact .inr ⟨q, by simp [hq], h1, h2⟩
theorem foldl_none (Q : List (Nat × List UInt8)) (S : List (List UInt8)) (a : Nat) (h : ∀ q ∈ Q, q.1 ≠ a) : (Q.foldl (fun S q => S.set q.1 q.2) S).getD a [] = S.getD a [] := by
  rcases foldl_any Q S a with e | ⟨q, hq, h1, -⟩
  · exact e
  · exact absurd h1 (h q hq)
theorem foldl_all (Q : List (Nat × List UInt8)) : ∀ (S : List (List UInt8)) (a : Nat) (v : List UInt8), a < S.length → (∀ q ∈ Q, q.1 = a → q.2 = v) → (∃ q ∈ Q, q.1 = a) → (Q.foldl (fun S q => S.set q.1 q.2) S).getD a [] = v := by
  induction Q with
  | nil => intro S a v _ _ ⟨q, hq, _⟩; simp at hq
  | cons x r ih =>
    intro S a v hl hall ⟨q, hq, h1⟩
    show (r.foldl _ (S.set x.1 x.2)).getD a [] = v
    by_cases hr : ∃ q ∈ r, q.1 = a
    · exact ih _ a v (by simpa using hl) (fun q hq => hall q (by simp [hq])) hr
    · have hx : x.1 = a := by
        rcases List.mem_cons.1 hq with rfl | h
        · exact h1
        · exact absurd ⟨q, h, h1⟩ hr
      rw [foldl_none r _ a (fun q hq e => hr ⟨q, hq, e⟩), hx, getD_set_eq hl]
      exact hall x (by simp) hx
theorem flD_get (d : Dv) (a : Nat) : (flD d).S.getD a [] = (d.Q.foldl (fun S q => S.set q.1 q.2) d.S).getD a [] := by
  show ((d.Q.take d.Q.length).foldl _ d.S).getD a [] = _
  rw [List.take_length]
/-- Behind a crash: a block has what it had, or what one of the writes says. -/
theorem crI_get (d : Dv) (K : List Int) (a : Nat) : ∀ i, i ≤ d.Q.length → (crI d K i).S.getD a [] = d.S.getD a [] ∨ ∃ q ∈ d.Q, q.1 = a ∧ (crI d K i).S.getD a [] = q.2 := by
  intro i
  induction i with
  | zero => intro _; exact .inl rfl
  | succ i ih =>
    intro hi
    unfold crI
    split
    · have hm : d.Q.getD i (0, []) ∈ d.Q := by
        rw [getD_of (show i < d.Q.length by omega)]
        exact List.getElem_mem _
      by_cases h : (d.Q.getD i (0, [])).1 = a
      · by_cases hl : a < (crI d K i).S.length
        · right
          refine ⟨_, hm, h, ?_⟩
          show ((crI d K i).S.set _ _).getD a [] = _
          rw [h, getD_set_eq hl]
        · have : (crI d K i).S.set (d.Q.getD i (0, [])).1 (d.Q.getD i (0, [])).2 = (crI d K i).S := by rw [h]; exact List.set_eq_of_length_le (by omega)
          show ((crI d K i).S.set _ _).getD a [] = _ ∨ ∃ q ∈ d.Q, q.1 = a ∧ ((crI d K i).S.set _ _).getD a [] = q.2
          rw [this]
          exact ih (by omega)
      · show ((crI d K i).S.set _ _).getD a [] = _ ∨ ∃ q ∈ d.Q, q.1 = a ∧ ((crI d K i).S.set _ _).getD a [] = q.2
        rw [getD_set_ne2 h]
        exact ih (by omega)
    · exact ih (by omega)
theorem crD_get (d : Dv) (K : List Int) (a : Nat) : (crD d K).S.getD a [] = d.S.getD a [] ∨ ∃ q ∈ d.Q, q.1 = a ∧ (crD d K).S.getD a [] = q.2 := crI_get d K a _ (Nat.le_refl _)
/-- Entries of different places lie in different blocks. -/
theorem chn_pos (L : List Tr) : ∀ (q : Ed), chn q L → ∀ m (hm : m < L.length), (L[m]).p + (L[m]).n ≤ (aft q L).p ∧ q.p ≤ (L[m]).p ∧ ∀ j (hj : j < L.length), m < j → (L[m]).p + (L[m]).n ≤ (L[j]).p := by
  induction L with
  | nil => intro q h m hm; simp at hm
  | cons t r ih =>
    intro q h m hm
    obtain ⟨h1, h2, h3, h4⟩ := h
    have hmono : ∀ (M : List Tr) (q : Ed), q.p ≤ (aft q M).p := by
      intro M
      induction M with
      | nil => intro q; exact Nat.le_refl _
      | cons t r ih => intro q; exact Nat.le_trans (show q.p ≤ q.p + t.n by omega) (ih (q.step t))
    cases m with
    | zero =>
      refine ⟨?_, by show q.p ≤ t.p; omega, fun j hj hmj => ?_⟩
      · have := hmono r (q.step t)
        show t.p + t.n ≤ (aft (q.step t) r).p
        rw [h1]
        exact this
      · obtain ⟨j, rfl⟩ : ∃ k, j = k + 1 := ⟨j - 1, by omega⟩
        have hj' : j < r.length := by simpa using hj
        have := (ih (q.step t) h4 j hj').2.1
        show t.p + t.n ≤ (r[j]'hj').p
        rw [h1]
        exact this
    | succ m =>
      have hm' : m < r.length := by simpa using hm
      obtain ⟨a1, a2, a3⟩ := ih (q.step t) h4 m hm'
      refine ⟨a1, ?_, fun j hj hmj => ?_⟩
      · have : q.p + t.n ≤ (r[m]).p := a2
        show q.p ≤ (r[m]).p
        omega
      · obtain ⟨j, rfl⟩ : ∃ k, j = k + 1 := ⟨j - 1, by omega⟩
        have hj' : j < r.length := by simpa using hj
        exact a3 j hj' (by omega)
theorem mod_win {R p a b : Nat} (ha : p ≤ a ∧ a < p + R) (hb : p ≤ b ∧ b < p + R) (h : a % R = b % R) : a = b := by
  have key : ∀ a b : Nat, p ≤ a → a ≤ b → b < p + R → a % R = b % R → a = b := by
    intro a b h1 h2 h3 h4
    have h5 : (b - a) % R = 0 := by
      have := Nat.sub_mod_eq_zero_of_mod_eq h4.symm
      exact this
    have h6 : b - a < R := by omega
    rw [Nat.mod_eq_of_lt h6] at h5
    omega
  rcases Nat.le_total a b with e | e
  · exact key a b ha.1 e hb.2 h
  · exact (key b a hb.1 e ha.2 h.symm).symm
theorem at_inj {R : Nat} {q : Ed} {L : List Tr} (h : chn q L) (hw : (aft q L).p ≤ q.p + R) {m j : Nat} (hm : m < L.length) (hj : j < L.length) {i k : Nat} (hi : i < (L[m]).n) (hk : k < (L[j]).n) (e : (L[m]).at R i = (L[j]).at R k) : m = j ∧ i = k := by
  obtain ⟨a1, a2, a3⟩ := chn_pos L q h m hm
  obtain ⟨b1, b2, b3⟩ := chn_pos L q h j hj
  unfold Tr.at at e
  have e2 : (L[m]).p + i = (L[j]).p + k := mod_win (p := q.p) (R := R) ⟨by omega, by omega⟩ ⟨by omega, by omega⟩ (by omega)
  rcases Nat.lt_trichotomy m j with c | c | c
  · have := a3 j hj c; omega
  · subst c; exact ⟨rfl, by omega⟩
  · have := b3 m hm c; omega
theorem at_ring {R c : Nat} (hc : R + 2 = c) (h4 : 4 ≤ R) (t : Tr) (i : Nat) : 2 ≤ t.at R i ∧ t.at R i < c := by
  have := Nat.mod_lt (t.p + i) (show 0 < R by omega)
  unfold Tr.at
  omega
/-- Different entries have different bytes. -/
theorem e_inj {T : List Tr} {c R : Nat} {S : List (List UInt8)} (hB : Bk c R S T) {t u : Tr} (ht : t ∈ T) (hu : u ∈ T) {i j : Nat} (hi : i < t.n) (hj : j < u.n) (e : t.e i = u.e j) : t = u ∧ i = j := by
  have h1 := Tr.dec (hB.ok t ht) hi
  have h2 := Tr.dec (hB.ok u hu) hj
  rw [e, h2] at h1
  simp only [Option.some.injEq, En.mk.injEq] at h1
  exact ⟨hB.one t ht u hu h1.1.symm h1.2.1.symm, h1.2.2.2.2.1.symm⟩
/-- The ring's blocks have what they had, or an entry of one that lives. -/
def Upd (c R : Nat) (S S' : List (List UInt8)) (L : List Tr) : Prop := ∀ a, 2 ≤ a → a < c → S'.getD a [] = S.getD a [] ∨ ∃ t ∈ L, ∃ i, i < t.n ∧ a = t.at R i ∧ S'.getD a [] = t.e i
theorem Bk.upd {c R : Nat} {S S' : List (List UInt8)} {T L : List Tr} (h : Bk c R S T) (hL : ∀ t ∈ L, t ∈ T) (u : Upd c R S S' L) : Bk c R S' T :=
  ⟨h.ok, h.one, fun a h1 h2 => by
    rcases u a h1 h2 with e | ⟨t, ht, i, hi, ha, e⟩
    · rw [e]; exact h.blk a h1 h2
    · exact .inr ⟨t, hL t ht, i, hi, ha, e⟩⟩
theorem Dead.upd {c R : Nat} {S S' : List (List UInt8)} {T L : List Tr} {q : Ed} (h : Dead R S T q L) (hB : Bk c R S T) (hL : ∀ t ∈ L, t ∈ T) (hc : R + 2 = c) (h4 : 4 ≤ R) (u : Upd c R S S' L) : Dead R S' T q L := by
  intro t ht hn k hk h1 h2 h3
  obtain ⟨i, hi, hne⟩ := h t ht hn k hk h1 h2 h3
  refine ⟨i, hi, fun e => ?_⟩
  obtain ⟨r1, r2⟩ := at_ring hc h4 t i
  rcases u _ r1 r2 with e2 | ⟨v, hv, j, hj, ha, e2⟩
  · rw [e2] at e; exact hne e
  · rw [e2] at e
    obtain ⟨rfl, -⟩ := e_inj hB (hL v hv) ht hj hi e
    exact hn hv
end Go.Proofs.Ytgodlfoidjeekaa

namespace Go.Proofs.Ytgodlfoidjeekaa
set_option linter.unusedVariables false
set_option linter.unusedSimpArgs false
open Go.RowKit
set_option linter.unusedVariables false
set_option linter.unusedSimpArgs false

/-- Behind i acts: T all that was written, L what lives, y how many of these are stable. -/
structure Cr0 (c i : Nat) (J : Jn) (D : Dv) (T L : List Tr) (y : Nat) : Prop where
  first : J.first = 0
  ring : J.ring + 2 = c
  c6 : 6 ≤ c
  len : D.S.length = c
  fail : D.fail = -1
  qs : D.Q.length ≤ 200 * i
  g : 1 ≤ J.sup.g ∧ J.sup.g ≤ 3 + i
  b : 1 ≤ J.sup.b ∧ J.sup.b ≤ 2 + i
  ser : J.serial ≤ i
  nd : J.nd ≤ 100 * i
  lst : J.lst ≤ i
  live : J.live = L.map Tr.m
  syn : J.synced = J.sup.l + y
  few : y ≤ L.length
  ch : chn J.sup.ed L
  sub : ∀ t ∈ L, t ∈ T
  bk : Bk c J.ring D.S T
  low : ∀ t ∈ T, t.b < J.sup.b ∨ t.b = J.sup.b ∧ t.s ≤ J.serial
  low0 : J.sup.x < J.sup.b ∨ J.sup.x = J.sup.b ∧ J.sup.y ≤ J.serial
  dead : Dead J.ring D.S T J.sup.ed L
  whole : ∀ m (hm : m < L.length), m < y → ∀ i, i < (L[m]).n → D.S.getD ((L[m]).at J.ring i) [] = (L[m]).e i
  sup : suG (D.S.getD (1 - J.sup.g % 2) []) = some J.sup
  oth : suC (D.S.getD (J.sup.g % 2) []) = 0 → (suR (D.S.getD (J.sup.g % 2) [])).g < J.sup.g
/-- And what waits. -/
structure Cr (c i : Nat) (J : Jn) (D : Dv) (T L : List Tr) (y : Nat) : Prop extends Cr0 c i J D T L y where
  que : ∀ q ∈ D.Q, ∃ m, ∃ hm : m < L.length, y ≤ m ∧ ∃ i, i < (L[m]).n ∧ q.1 = (L[m]).at J.ring i ∧ q.2 = (L[m]).e i
  has : ∀ m (hm : m < L.length), y ≤ m → ∀ i, i < (L[m]).n → ((L[m]).at J.ring i, (L[m]).e i) ∈ D.Q
section
variable {c i : Nat} {J : Jn} {D : Dv} {T L : List Tr} {y : Nat}
theorem Cr0.mono (h : Cr0 c i J D T L y) : Cr0 c (i + 1) J D T L y := by
  exact { h with qs := by have := h.qs; omega, g := by have := h.g; omega, b := by have := h.b; omega, ser := by have := h.ser; omega, nd := by have := h.nd; omega, lst := by have := h.lst; omega }
theorem Cr.mono (h : Cr c i J D T L y) : Cr c (i + 1) J D T L y := ⟨h.toCr0.mono, h.que, h.has⟩
theorem Cr0.of (h : Cr0 c i J D T L y) : J.of L = J := by unfold Jn.of; rw [← h.live]
theorem Cr0.at (h : Cr0 c i J D T L y) : J.nd = (aft J.sup.ed L).p ∧ J.lst = J.sup.l + L.length ∧ J.last.b = (aft J.sup.ed L).b ∧ J.last.s = (aft J.sup.ed L).s := by
  obtain ⟨o1, o2, o3, o4⟩ := of_last J L h.ch
  rw [h.of] at o1 o2 o3 o4
  refine ⟨o1, ?_, o3, o4⟩
  unfold Jn.lst
  rw [h.live, List.length_map]
theorem Cr0.full (h : Cr0 c i J D T L y) {n : Nat} (ok : J.Ok n) : (aft J.sup.ed L).p ≤ J.sup.p + J.ring := by
  rw [← h.at.1]
  exact ok.full
/-- The stamp ahead of the next one is not later than what was given. -/
theorem Cr0.stamp (h : Cr0 c i J D T L y) : (aft J.sup.ed L).b < J.sup.b ∨ (aft J.sup.ed L).b = J.sup.b ∧ (aft J.sup.ed L).s ≤ J.serial := by
  cases e : L.getLast? with
  | none =>
    have : L = [] := by simpa using e
    subst this
    exact h.low0
  | some t =>
    rw [aft_last L _ t h.ch e]
    exact h.low t (h.sub t (List.mem_of_getLast? e))
/-- The transaction that Append writes. -/
def apT (J : Jn) (ps : List (Int × List UInt8)) : Tr := ⟨J.sup.b, J.serial + 1, J.nd, J.lst + 1, ptL ps⟩
theorem Cr.tOk (h : Cr c i J D T L y) (hi : i ≤ 40) {ps : List (Int × List UInt8)} (hb : ptB ps = true) : (apT J ps).Ok := by
  have h1 := h.b
  have h2 := h.ser
  have h3 := h.nd
  have h4 := h.lst
  exact ⟨(gt_ptL hb).1, ⟨by show 0 < J.sup.b; omega, by show J.sup.b ≤ 1000; omega⟩, ⟨by show 0 < J.serial + 1; omega, by show J.serial + 1 ≤ 1000; omega⟩, by show J.nd ≤ _; omega, ⟨by show 0 < J.lst + 1; omega, by show J.lst + 1 ≤ 1000; omega⟩⟩
theorem wr_new {D : Dv} (h : D.fail = -1) (x : Nat) (l : List UInt8) : wrD D x l = ⟨D.S, D.Q ++ [(x, l)], -1⟩ := by
  unfold wrD
  rw [if_neg (by omega), if_neg (by omega)]
  unfold Dv.more
  rw [h]
theorem we_list (h : Cr c i J D T L y) (hi : i ≤ 40) {ps : List (Int × List UInt8)} (hb : ptB ps = true) : ∀ m, m ≤ apN ps → weI J.up D (J.lst + 1) (apN ps) (ptL ps) (List.range m) = (⟨D.S, D.Q ++ (List.range m).map (fun k => ((apT J ps).at J.ring k, (apT J ps).e k)), -1⟩, 0) := by
  intro m
  induction m with
  | zero =>
    intro _
    show (D, (0 : Int)) = _
    have := h.fail
    obtain ⟨S, Q, f⟩ := D
    dsimp only at this
    subst this
    simp
  | succ m ih =>
    intro hm
    have hok := h.tOk hi hb
    rw [List.range_succ, weI_snoc, List.length_range, ih (by omega)]
    have hc : weC J.up (J.lst + 1) (apN ps) m (pieceL (ptL ps) m) = true := hok.cb (i := m) hm
    unfold weS
    rw [if_pos rfl, if_pos hc]
    dsimp only
    rw [wr_new rfl]
    have hbk : J.up.blk (J.up.nd + m) = (apT J ps).at J.ring m := by
      show J.first + 2 + _ = _
      rw [h.first, Nat.zero_add]
      rfl
    rw [hbk, List.map_append, List.append_assoc]
    rfl
theorem ap_yes2 (h : Cr c i J D T L y) (hi : i ≤ 40) {n : Nat} (ok : J.Ok n) {ps : List (Int × List UInt8)} (hb : ptB ps = true) (hr : apN ps ≤ J.room) : apE J D ps = (J.lst + 1, 0) ∧ apJ J D ps = J.up.more (apT J ps).m ∧ apD J D ps = ⟨D.S, D.Q ++ (List.range (apN ps)).map (fun k => ((apT J ps).at J.ring k, (apT J ps).e k)), -1⟩ := by
  have hB : apB J ps = true := by
    obtain ⟨-, n1, n2⟩ := need_apN hb
    have := h.lst
    have := h.ser
    have := h.nd
    unfold apB wiB
    simp only [List.all_cons, List.all_nil, Bool.and_eq_true, decide_eq_true_eq]
    exact ⟨hr, by omega, by omega, by omega, trivial⟩
  have hW : apW J D ps = (⟨D.S, D.Q ++ (List.range (apN ps)).map (fun k => ((apT J ps).at J.ring k, (apT J ps).e k)), -1⟩, 0) := we_list h hi hb (apN ps) (Nat.le_refl _)
  have hW2 : (apW J D ps).2 = 0 := by rw [hW]
  refine ⟨by unfold apE; rw [if_pos hb, if_pos hB, if_pos hW2], ?_, by unfold apD; rw [if_pos hb, if_pos hB, hW]⟩
  unfold apJ
  rw [if_pos hb, if_pos hB, if_pos hW2]
  rfl
/-- Append, where it goes in. -/
theorem Cr.append (h : Cr c i J D T L y) (hi : i ≤ 40) {n : Nat} (ok : J.Ok n) {ps : List (Int × List UInt8)} (hb : ptB ps = true) (hr : apN ps ≤ J.room) :
    apE J D ps = (J.sup.l + (L.length + 1), 0) ∧ (apJ J D ps).sup = J.sup ∧ Cr c (i + 1) (apJ J D ps) (apD J D ps) (T ++ [apT J ps]) (L ++ [apT J ps]) y := by
  obtain ⟨e1, e2, e3⟩ := ap_yes2 h hi ok hb hr
  obtain ⟨p1, p2, p3, p4⟩ := h.at
  obtain ⟨-, n1, n2⟩ := need_apN hb
  have hok := h.tOk hi hb
  have hst := h.stamp
  rw [e1, e2, e3]
  obtain ⟨t, ht⟩ : ∃ t, t = apT J ps := ⟨_, rfl⟩
  have tn : t.n = apN ps := by rw [ht]; rfl
  have tb : t.b = J.sup.b := by rw [ht]; rfl
  have ts : t.s = J.serial + 1 := by rw [ht]; rfl
  have tp : t.p = J.nd := by rw [ht]; rfl
  have tl : t.l = J.lst + 1 := by rw [ht]; rfl
  rw [← ht] at hok ⊢
  have hlt : later (aft J.sup.ed L).b (aft J.sup.ed L).s t := by
    unfold later
    omega
  have hch : chn J.sup.ed (L ++ [t]) := (chn_append _ _ _).2 ⟨h.ch, by rw [tp, p1], by rw [aft_l, tl, p2]; rfl, hlt, trivial⟩
  have hnt : ∀ u ∈ T, ¬ (u.b = t.b ∧ u.s = t.s) := by
    intro u hu e
    have := h.low u hu
    omega
  have hmm : ∀ m (hm : m < (L ++ [t]).length), y ≤ m → (∃ hm' : m < L.length, (L ++ [t])[m] = L[m]) ∨ (m = L.length ∧ (L ++ [t])[m] = t) := by
    intro m hm _
    by_cases e : m < L.length
    · exact .inl ⟨e, List.getElem_append_left e⟩
    · have hl : m = L.length := by rw [List.length_append, List.length_singleton] at hm; omega
      refine .inr ⟨hl, ?_⟩
      subst hl
      simp
  refine ⟨by rw [p2, Nat.add_assoc], rfl, ⟨h.first, h.ring, h.c6, h.len, rfl, ?_, by have := h.g; show 1 ≤ J.sup.g ∧ J.sup.g ≤ _; omega, by have := h.b; show 1 ≤ J.sup.b ∧ J.sup.b ≤ _; omega, by have := h.ser; show J.serial + 1 ≤ _; omega, ?_, ?_, ?_, h.syn, by have := h.few; rw [List.length_append]; omega, hch, ?_, ?_, ?_, ?_, ?_, ?_, h.sup, h.oth⟩, ?_, ?_⟩
  · have := h.qs
    show (D.Q ++ _).length ≤ _
    rw [List.length_append, List.length_map, List.length_range]
    omega
  · unfold Jn.nd
    rw [last_more]
    show t.p + t.n ≤ _
    have := h.nd
    omega
  · have := h.lst
    unfold Jn.lst at this ⊢
    show J.sup.l + (J.live ++ [_]).length ≤ _
    rw [List.length_append, List.length_singleton]
    omega
  · show J.live ++ [t.m] = _
    rw [h.live, List.map_append]
    rfl
  · intro u hu
    rcases List.mem_append.1 hu with e | e
    · exact List.mem_append_left _ (h.sub u e)
    · exact List.mem_append_right _ e
  · refine ⟨fun u hu => ?_, fun u hu v hv e5 e6 => ?_, fun a h1 h2 => ?_⟩
    · rcases List.mem_append.1 hu with e | e
      · exact h.bk.ok u e
      · rw [List.mem_singleton.1 e]; exact hok
    · rcases List.mem_append.1 hu with e | e
      · rcases List.mem_append.1 hv with f | f
        · exact h.bk.one u e v f e5 e6
        · rw [List.mem_singleton.1 f] at e5 e6; exact absurd ⟨e5, e6⟩ (hnt u e)
      · rcases List.mem_append.1 hv with f | f
        · rw [List.mem_singleton.1 e] at e5 e6; exact absurd ⟨e5.symm, e6.symm⟩ (hnt v f)
        · rw [List.mem_singleton.1 e, List.mem_singleton.1 f]
    · rcases h.bk.blk a h1 h2 with e | ⟨u, hu, r⟩
      · exact .inl e
      · exact .inr ⟨u, List.mem_append_left _ hu, r⟩
  · intro u hu
    rcases List.mem_append.1 hu with e | e
    · have := h.low u e
      show u.b < J.sup.b ∨ u.b = J.sup.b ∧ u.s ≤ J.serial + 1
      omega
    · rw [List.mem_singleton.1 e]
      exact .inr ⟨tb, by rw [ts]; exact Nat.le_refl _⟩
  · have := h.low0
    show J.sup.x < J.sup.b ∨ J.sup.x = J.sup.b ∧ J.sup.y ≤ J.serial + 1
    omega
  · intro u hu hn k hk a1 a2 a3
    have huT : u ∈ T := by
      rcases List.mem_append.1 hu with e | e
      · exact e
      · exact absurd (List.mem_append_right _ e) hn
    by_cases e : k ≤ L.length
    · have e2 : (L ++ [t]).take k = L.take k := List.take_append_of_le_length e
      rw [e2] at a1 a3
      exact h.dead u huT (fun e => hn (List.mem_append_left _ e)) k e a1 a2 a3
    · have hk2 : k = L.length + 1 := by rw [List.length_append, List.length_singleton] at hk; omega
      have e2 : (L ++ [t]).take k = L ++ [t] := List.take_of_length_le (by rw [List.length_append, List.length_singleton]; omega)
      rw [e2, aft_append] at a3
      have a4 : later t.b t.s u := a3
      unfold later at a4
      have := h.low u huT
      omega
  · intro m hm hy k hk
    have hm' : m < L.length := by have := h.few; omega
    rw [List.getElem_append_left hm'] at hk ⊢
    exact h.whole m hm' hy k hk
  · intro q hq
    rcases List.mem_append.1 hq with e | e
    · obtain ⟨m, hm, hy, k, hk, r⟩ := h.que q e
      refine ⟨m, by rw [List.length_append]; omega, hy, k, ?_⟩
      rw [List.getElem_append_left hm]
      exact ⟨hk, r⟩
    · obtain ⟨k, hk, rfl⟩ := List.mem_map.1 e
      rw [List.mem_range] at hk
      refine ⟨L.length, by simp, h.few, k, ?_⟩
      have : (L ++ [t])[L.length]'(by simp) = t := by simp
      rw [this]
      exact ⟨by omega, rfl, rfl⟩
  · intro m hm hy k hk
    rcases hmm m hm hy with ⟨hm', e⟩ | ⟨rfl, e⟩
    · rw [e] at hk ⊢
      exact List.mem_append_left _ (h.has m hm' hy k hk)
    · rw [e] at hk ⊢
      refine List.mem_append_right _ (List.mem_map.2 ⟨k, List.mem_range.2 (by omega), rfl⟩)
/-- What the device's blocks are behind all that waits. -/
theorem Cr.stable (h : Cr c i J D T L y) (hf : (aft J.sup.ed L).p ≤ J.sup.p + J.ring) {S' : List (List UInt8)} (hS : ∀ a, 2 ≤ a → S'.getD a [] = (D.Q.foldl (fun S q => S.set q.1 q.2) D.S).getD a []) : Upd c J.ring D.S S' L ∧ ∀ m (hm : m < L.length), ∀ k, k < (L[m]).n → S'.getD ((L[m]).at J.ring k) [] = (L[m]).e k := by
  have hR : 4 ≤ J.ring := by have := h.ring; have := h.c6; omega
  refine ⟨fun a h1 h2 => ?_, fun m hm k hk => ?_⟩
  · rw [hS a h1]
    rcases foldl_any D.Q D.S a with e | ⟨q, hq, e1, e2⟩
    · exact .inl e
    · obtain ⟨m, hm, -, k, hk, e3, e4⟩ := h.que q hq
      exact .inr ⟨L[m], List.getElem_mem hm, k, hk, by rw [← e1, e3], by rw [e2, e4]⟩
  · obtain ⟨r1, r2⟩ := at_ring h.ring hR (L[m]) k
    rw [hS _ r1]
    have huni : ∀ q ∈ D.Q, q.1 = (L[m]).at J.ring k → q.2 = (L[m]).e k := by
      intro q hq e
      obtain ⟨m', hm', -, k', hk', e3, e4⟩ := h.que q hq
      rw [e3] at e
      obtain ⟨rfl, rfl⟩ := at_inj h.ch hf hm' hm hk' hk e
      exact e4
    by_cases hy : m < y
    · by_cases hex : ∃ q ∈ D.Q, q.1 = (L[m]).at J.ring k
      · exact foldl_all D.Q D.S _ _ (by rw [h.len]; exact r2) huni hex
      · rw [foldl_none _ _ _ (fun q hq e => hex ⟨q, hq, e⟩)]
        exact h.whole m hm hy k hk
    · exact foldl_all D.Q D.S _ _ (by rw [h.len]; exact r2) huni ⟨_, h.has m hm (by omega) k hk, rfl⟩
/-- Below the ring nothing waits. -/
theorem Cr.below (h : Cr c i J D T L y) {a : Nat} (ha : a < 2) : (D.Q.foldl (fun S q => S.set q.1 q.2) D.S).getD a [] = D.S.getD a [] := by
  have hR : 4 ≤ J.ring := by have := h.ring; have := h.c6; omega
  refine foldl_none _ _ _ (fun q hq e => ?_)
  obtain ⟨m, hm, -, k, hk, e3, e4⟩ := h.que q hq
  have := (at_ring h.ring hR (L[m]) k).1
  omega
theorem Cr.sync (h : Cr c i J D T L y) {n : Nat} (ok : J.Ok n) : Cr c (i + 1) J.syn (flD D) T L L.length := by
  obtain ⟨u, w⟩ := h.stable (h.full ok) (S' := (flD D).S) (fun a _ => flD_get D a)
  have hR : 4 ≤ J.ring := by have := h.ring; have := h.c6; omega
  have hm := h.mono
  refine ⟨⟨h.first, h.ring, h.c6, by rw [flD_len]; exact h.len, h.fail, by show 0 ≤ _; omega, hm.g, hm.b, hm.ser, hm.nd, hm.lst, h.live, h.at.2.1, Nat.le_refl _, h.ch, h.sub, h.bk.upd h.sub u, h.low, h.low0, h.dead.upd h.bk h.sub h.ring hR u, fun m hm _ => w m hm, ?_, ?_⟩, fun q hq => by simp [flD] at hq, fun m hm hy => by omega⟩
  · rw [flD_get]
    show suG ((D.Q.foldl _ D.S).getD (1 - J.sup.g % 2) []) = some J.sup
    rw [h.below (by omega)]
    exact h.sup
  · rw [flD_get]
    show suC ((D.Q.foldl _ D.S).getD (J.sup.g % 2) []) = 0 → (suR ((D.Q.foldl _ D.S).getD (J.sup.g % 2) [])).g < J.sup.g
    rw [h.below (Nat.mod_lt _ (by omega))]
    exact h.oth
end
end Go.Proofs.Ytgodlfoidjeekaa

namespace Go.Proofs.Ytgodlfoidjeekaa
set_option linter.unusedVariables false
set_option linter.unusedSimpArgs false
open Go.RowKit
set_option linter.unusedVariables false
set_option linter.unusedSimpArgs false

theorem su_rd {u : Su} (h : u.B = true) : suG u.L = some u := by
  obtain ⟨g, b, p, l, x, y⟩ := u
  exact suG_suB h
section
variable {c i : Nat} {J : Jn} {D : Dv} {T L : List Tr} {y : Nat}
/-- A superblock is written, and all is flushed. -/
theorem Cr.super (h : Cr c i J D T L y) (hf : (aft J.sup.ed L).p ≤ J.sup.p + J.ring) {u : Su} (hu : u.B = true) (hg : u.g = J.sup.g + 1) {J2 : Jn} (h2 : J2.first = 0) :
    wsE D u = 0 ∧ (stD J2 D u).Q = [] ∧ (stD J2 D u).fail = -1 ∧ (stD J2 D u).S.length = c ∧ Upd c J.ring D.S (stD J2 D u).S L ∧ (∀ m (hm : m < L.length), ∀ k, k < (L[m]).n → (stD J2 D u).S.getD ((L[m]).at J.ring k) [] = (L[m]).e k) ∧
    suG ((stD J2 D u).S.getD (1 - u.g % 2) []) = some u ∧ (suC ((stD J2 D u).S.getD (u.g % 2) []) = 0 → (suR ((stD J2 D u).S.getD (u.g % 2) [])).g < u.g) := by
  have e0 : wsE D u = 0 := by
    unfold wsE
    rw [if_pos hu]
    exact (wr_neg h.fail 0 []).1
  have e1 : stD J2 D u = flD ⟨D.S, D.Q ++ [(1 - u.g % 2, u.L)], -1⟩ := by
    unfold stD
    rw [if_pos e0]
    unfold wsD
    rw [if_pos hu, wr_new h.fail]
    have : J2.place u = 1 - u.g % 2 := by unfold Jn.place; rw [h2]
    rw [this]
  have c6 := h.c6
  have hp : 1 - u.g % 2 < 2 := by omega
  have hS : ∀ a, (stD J2 D u).S.getD a [] = ((D.Q.foldl (fun S q => S.set q.1 q.2) D.S).set (1 - u.g % 2) u.L).getD a [] := by
    intro a
    rw [e1, flD_get]
    show ((D.Q ++ [_]).foldl _ D.S).getD a [] = _
    rw [List.foldl_append]
    rfl
  have hl : (D.Q.foldl (fun S q => S.set q.1 q.2) D.S).length = c := by rw [foldl_set_len, h.len]
  obtain ⟨s1, s2⟩ := h.stable hf (S' := (stD J2 D u).S) (fun a ha => by rw [hS a, getD_set_ne2 (by omega)])
  refine ⟨e0, by rw [e1]; rfl, by rw [e1]; rfl, ?_, s1, s2, ?_, ?_⟩
  · rw [e1, flD_len]
    exact h.len
  · rw [hS, getD_set_eq (by omega)]
    exact su_rd hu
  · have e2 : u.g % 2 = 1 - J.sup.g % 2 := by omega
    rw [hS, getD_set_ne2 (by omega), h.below (by omega), e2]
    intro _
    unfold suR
    rw [h.sup]
    show J.sup.g < u.g
    omega
theorem aft_take {q : Ed} (h : chn q L) {m : Nat} (hm : m < L.length) : aft q (L.take (m + 1)) = ⟨(L[m]).p + (L[m]).n, q.l + (m + 1), (L[m]).b, (L[m]).s⟩ := by
  have h2 : chn q (L.take (m + 1) ++ L.drop (m + 1)) := by rw [List.take_append_drop]; exact h
  have h3 := ((chn_append _ _ _).1 h2).1
  have h4 : (L.take (m + 1)).getLast? = some L[m] := by rw [List.take_succ_eq_append_getElem hm, List.getLast?_concat]
  rw [aft_last _ q L[m] h3 h4, List.length_take, show min (m + 1) L.length = m + 1 by omega]
theorem chn_drop {q : Ed} (h : chn q L) (m : Nat) : chn (aft q (L.take m)) (L.drop m) := by
  have h2 : chn q (L.take m ++ L.drop m) := by rw [List.take_append_drop]; exact h
  exact ((chn_append _ _ _).1 h2).2
/-- Trim, where nothing goes. -/
theorem trim_no {k : Nat} (h : ¬ (tmE J D k = 0 ∧ J.sup.l < k)) (hi : i ≤ 40) (hc : Cr c i J D T L y) : tmJ J D k = J ∧ tmD J D k = D := by
  unfold tmJ tmD
  by_cases h1 : J.synced < k ∨ k < J.sup.l
  · rw [if_pos h1, if_pos h1]; exact ⟨rfl, rfl⟩
  · rw [if_neg h1, if_neg h1]
    by_cases h2 : k = J.sup.l
    · rw [if_pos h2, if_pos h2]; exact ⟨rfl, rfl⟩
    · rw [if_neg h2, if_neg h2]
      by_cases h3 : tmB J k = true
      · exfalso
        refine h ⟨?_, by omega⟩
        unfold tmE
        rw [if_neg h1, if_neg h2, if_pos h3]
        have hB : Su.B (tmU J k) = true := by
          unfold tmB wiB at h3
          simp only [List.all_cons, List.all_nil, Bool.and_eq_true, decide_eq_true_eq] at h3
          have a1 := hc.syn
          have a2 := hc.few
          have a3 := hc.at.2.1
          have a4 := hc.lst
          have a5 := hc.b
          obtain ⟨n, hn⟩ : ∃ n, k - J.sup.l = n + 1 := ⟨k - J.sup.l - 1, by omega⟩
          have hnl : n < L.length := by omega
          have hm : tmM J k = (L[n]).m := by unfold tmM; rw [hn, hc.live]; simp [hnl]
          have hT := hc.bk.ok _ (hc.sub _ (List.getElem_mem hnl))
          have t1 := hT.b
          have t2 := hT.s
          unfold Su.B sbB wiB
          simp only [List.all_cons, List.all_nil, Bool.and_eq_true, decide_eq_true_eq]
          refine ⟨⟨Nat.succ_pos _, by show 0 < J.sup.b; omega⟩, h3.1, by show J.sup.b ≤ _; omega, h3.2.1, by show k ≤ _; omega, ?_, ?_, trivial⟩
          · show (tmM J k).b ≤ _
            rw [hm]
            show (L[n]).b ≤ _
            omega
          · show (tmM J k).s ≤ _
            rw [hm]
            show (L[n]).s ≤ _
            omega
        unfold wsE
        rw [if_pos hB]
        exact (wr_neg hc.fail 0 []).1
      · rw [if_neg h3, if_neg h3]; exact ⟨rfl, rfl⟩
/-- Trim, where some go. -/
theorem Cr.trim {k : Nat} (h : Cr c i J D T L y) (hi : i ≤ 40) {n : Nat} (ok : J.Ok n) (hE : tmE J D k = 0) (hk : J.sup.l < k) :
    k ≤ J.sup.l + L.length ∧ (tmJ J D k).sup.l = k ∧ Cr c (i + 1) (tmJ J D k) (tmD J D k) T (L.drop (k - J.sup.l)) (L.drop (k - J.sup.l)).length := by
  have h1 : ¬ (J.synced < k ∨ k < J.sup.l) := by
    intro e
    unfold tmE at hE
    rw [if_pos e] at hE
    exact absurd hE (by decide)
  have h2 : ¬ k = J.sup.l := by omega
  have h3 : tmB J k = true := by
    unfold tmE at hE
    rw [if_neg h1, if_neg h2] at hE
    by_cases e : tmB J k = true
    · exact e
    · rw [if_neg e] at hE; exact absurd hE (by decide)
  have hE2 : wsE D (tmU J k) = 0 := by
    unfold tmE at hE
    rw [if_neg h1, if_neg h2, if_pos h3] at hE
    exact hE
  have hB : Su.B (tmU J k) = true := by
    unfold wsE at hE2
    by_cases hb : Su.B (tmU J k) = true
    · exact hb
    · rw [if_neg hb] at hE2; omega
  have a1 := h.syn
  have a2 := h.few
  have a3 := h.at.2.1
  have a4 := h.lst
  have a5 := h.b
  have a6 := h.g
  obtain ⟨m, hm⟩ : ∃ m, k - J.sup.l = m + 1 := ⟨k - J.sup.l - 1, by omega⟩
  have hml : m < L.length := by omega
  have hM : tmM J k = (L[m]).m := by unfold tmM; rw [hm, h.live]; simp [hml]
  have eJ : tmJ J D k = tmF J k := by unfold tmJ; rw [if_neg h1, if_neg h2, if_pos h3, if_pos hE2]
  have eD : tmD J D k = stD (tmG J) D (tmU J k) := by unfold tmD; rw [if_neg h1, if_neg h2, if_pos h3]
  obtain ⟨-, d1, d2, d3, d4, d5, d6, d7⟩ := h.super (h.full ok) hB (show (tmU J k).g = J.sup.g + 1 from rfl) (J2 := tmG J) h.first
  obtain ⟨-, t2, t3, t4⟩ := tmF_ok ok hk (by omega) (sb_of hB)
  have hR : 4 ≤ J.ring := by have := h.ring; have := h.c6; omega
  have hed : (tmU J k).ed = aft J.sup.ed (L.take (m + 1)) := by
    rw [aft_take h.ch hml]
    show (⟨(tmM J k).e, k, (tmM J k).b, (tmM J k).s⟩ : Ed) = ⟨(L[m]).p + (L[m]).n, J.sup.l + (m + 1), (L[m]).b, (L[m]).s⟩
    rw [hM, show k = J.sup.l + (m + 1) by omega]
    rfl
  have hdl : (L.drop (m + 1)).length = L.length - (m + 1) := List.length_drop
  have hsub : ∀ t ∈ L.drop (m + 1), t ∈ L := fun t ht => List.mem_of_mem_drop ht
  rw [eJ, eD, hm]
  refine ⟨by omega, rfl, ⟨h.first, h.ring, h.c6, d3, d2, by rw [d1]; show 0 ≤ _; omega, ⟨by show 1 ≤ J.sup.g + 1; omega, by show J.sup.g + 1 ≤ _; omega⟩, ⟨a5.1, by show J.sup.b ≤ _; omega⟩, by have := h.ser; show J.serial ≤ _; omega, by rw [t2]; have := h.nd; omega, by rw [t3]; omega, ?_, ?_, Nat.le_refl _, ?_, fun t ht => h.sub t (hsub t ht), h.bk.upd h.sub d4, h.low, ?_, ?_, ?_, d6, d7⟩, fun q hq => by rw [d1] at hq; simp at hq, fun m' hm' hy => by omega⟩
  · show J.live.drop (k - J.sup.l) = _
    rw [hm, h.live, List.map_drop]
  · show J.lst = k + _
    rw [a3, hdl]
    omega
  · show chn (tmU J k).ed _
    rw [hed]
    exact chn_drop h.ch _
  · show (tmM J k).b < J.sup.b ∨ (tmM J k).b = J.sup.b ∧ (tmM J k).s ≤ J.serial
    rw [hM]
    exact h.low _ (h.sub _ (List.getElem_mem hml))
  · show Dead J.ring _ T (tmU J k).ed _
    rw [hed]
    intro t ht hn k' hk' b1 b2 b3
    rw [hdl] at hk'
    have hta : L.take (m + 1 + k') = L.take (m + 1) ++ (L.drop (m + 1)).take k' := by rw [List.take_add]
    rw [← aft_append, ← hta] at b1 b3
    have hl2 : (aft J.sup.ed (L.take (m + 1))).l = J.sup.l + (m + 1) := by
      rw [aft_l, List.length_take, show min (m + 1) L.length = m + 1 by omega]
      rfl
    have hD := h.dead.upd h.bk h.sub h.ring hR d4
    by_cases e : t ∈ L
    · exfalso
      obtain ⟨x, hx, e1, e2⟩ := chn_num L _ h.ch t e
      have e3 : (Su.ed J.sup).l = J.sup.l := rfl
      have hxm : x = m + 1 + k' := by omega
      apply hn
      rw [← e1]
      rw [List.mem_iff_getElem]
      exact ⟨k', by omega, by rw [List.getElem_drop]; congr 1; omega⟩
    · exact hD t ht e (m + 1 + k') (by omega) b1 (by rw [b2, hl2]; show _ = J.sup.l + _ + 1; omega) b3
  · intro x hx hxy j hj
    rw [List.getElem_drop] at hj ⊢
    exact d5 _ _ j hj
end
end Go.Proofs.Ytgodlfoidjeekaa

namespace Go.Proofs.Ytgodlfoidjeekaa
set_option linter.unusedVariables false
set_option linter.unusedSimpArgs false
open Go.RowKit
set_option linter.unusedVariables false
set_option linter.unusedSimpArgs false

theorem aft_mono : ∀ (M : List Tr) (q : Ed), q.p ≤ (aft q M).p := by
  intro M
  induction M with
  | nil => intro q; exact Nat.le_refl _
  | cons t r ih => intro q; exact Nat.le_trans (show q.p ≤ q.p + t.n by omega) (ih (q.step t))
theorem su_some {l : List UInt8} {u : Su} (h : suG l = some u) : suC l = 0 ∧ suR l = u := by
  unfold suC suR
  rw [h]
  exact ⟨rfl, rfl⟩
section
variable {c i : Nat} {J : Jn} {D : Dv} {T L : List Tr} {y : Nat}
theorem Cr.crash (h : Cr c i J D T L y) {n : Nat} (ok : J.Ok n) (K : List Int) : Cr0 c i J (crD D K) T L y ∧ (crD D K).Q = [] := by
  have hR : 4 ≤ J.ring := by have := h.ring; have := h.c6; omega
  obtain ⟨c1, c2, c3⟩ := crI_all D K D.Q.length
  have u : Upd c J.ring D.S (crD D K).S L := by
    intro a h1 h2
    rcases crD_get D K a with e | ⟨q, hq, e1, e2⟩
    · exact .inl e
    · obtain ⟨m, hm, -, k, hk, e3, e4⟩ := h.que q hq
      exact .inr ⟨L[m], List.getElem_mem hm, k, hk, by rw [← e1, e3], by rw [e2, e4]⟩
  have hb : ∀ a, a < 2 → (crD D K).S.getD a [] = D.S.getD a [] := by
    intro a ha
    rcases crD_get D K a with e | ⟨q, hq, e1, e2⟩
    · exact e
    · obtain ⟨m, hm, -, k, hk, e3, e4⟩ := h.que q hq
      have := (at_ring h.ring hR (L[m]) k).1
      omega
  refine ⟨⟨h.first, h.ring, h.c6, by show (crI D K D.Q.length).S.length = c; rw [c2, h.len], by show (crI D K D.Q.length).fail = -1; rw [c3, h.fail], Nat.zero_le _, h.g, h.b, h.ser, h.nd, h.lst, h.live, h.syn, h.few, h.ch, h.sub, h.bk.upd h.sub u, h.low, h.low0, h.dead.upd h.bk h.sub h.ring hR u, fun m hm hy k hk => ?_, ?_, ?_⟩, rfl⟩
  · rcases crD_get D K ((L[m]).at J.ring k) with e | ⟨q, hq, e1, e2⟩
    · rw [e]; exact h.whole m hm hy k hk
    · obtain ⟨m', hm', hy', k', hk', e3, e4⟩ := h.que q hq
      rw [e3] at e1
      obtain ⟨rfl, rfl⟩ := at_inj h.ch (h.full ok) hm' hm hk' hk e1
      omega
  · rw [hb _ (by omega)]; exact h.sup
  · rw [hb _ (Nat.mod_lt _ (by omega))]; exact h.oth
/-- Which superblock is found. -/
theorem Cr0.found (h : Cr0 c i J D T L y) (hQ : D.Q = []) : fsI (jn0 0 c) D 2 = (jn0 0 c).setS J.sup ∧ fsE (jn0 0 c) D = 0 := by
  have hg := h.g
  have hrd : ∀ a, rdB D a = D.S.getD a [] := rdB_nil hQ
  obtain ⟨s1, s2⟩ := su_some h.sup
  have ho := h.oth
  have key : fsI (jn0 0 c) D 2 = (jn0 0 c).setS J.sup := by
    rcases Nat.mod_two_eq_zero_or_one J.sup.g with e | e
    · rw [e] at s1 s2 ho
      unfold fsI
      have hz : (fsI (jn0 0 c) D 1).sup.g < J.sup.g ∧ (fsI (jn0 0 c) D 1).setS J.sup = (jn0 0 c).setS J.sup := by
        unfold fsI
        split
        · rename_i hc
          refine ⟨?_, rfl⟩
          have := hc.1
          rw [hrd] at this
          have := ho this
          show (suR (rdB D (0 + 0))).g < _
          rw [hrd]
          exact this
        · exact ⟨by show 0 < J.sup.g; omega, rfl⟩
      have hb : rdB D ((jn0 0 c).first + 1) = D.S.getD (1 - 0) [] := hrd _
      rw [hb, s1, s2, if_pos ⟨rfl, hz.1⟩]
      exact hz.2
    · rw [e] at s1 s2 ho
      have hz : fsI (jn0 0 c) D 1 = (jn0 0 c).setS J.sup := by
        unfold fsI
        have hb : rdB D ((jn0 0 c).first + 0) = D.S.getD (1 - 1) [] := hrd _
        rw [hb, s1, s2, if_pos ⟨rfl, by show 0 < J.sup.g; omega⟩]
        rfl
      unfold fsI
      have hb : rdB D ((jn0 0 c).first + 1) = D.S.getD 1 [] := hrd _
      rw [hz, hb, if_neg]
      rintro ⟨a1, a2⟩
      have := ho a1
      have a3 : J.sup.g < (suR (D.S.getD 1 [])).g := a2
      omega
  refine ⟨key, ?_⟩
  unfold fsE
  rw [key, if_neg]
  show ¬ J.sup.g = 0
  omega
/-- What is read. -/
theorem Cr0.read (h : Cr0 c i J D T L y) (hQ : D.Q = []) (h40 : c ≤ 40) {n : Nat} (ok : J.Ok n) : ∃ k, y ≤ k ∧ k ≤ L.length ∧ opR D 0 c = (((jn0 0 c).setS J.sup).of (L.take k), (L.take k).map Tr.x) ∧ Cr c i { J with live := (L.take k).map Tr.m, synced := J.sup.l + k } D T (L.take k) k := by
  have hrg := h.ring
  have hc6 := h.c6
  have hR : 4 ≤ J.ring := by omega
  obtain ⟨J0, hJ0⟩ : ∃ J0, J0 = (jn0 0 c).setS J.sup := ⟨_, rfl⟩
  have ok0 : J0.Ok c := by rw [hJ0]; exact (jn0_ok 0 c c hc6 (by omega) (by omega)).setS rfl J.sup (suG_ok _ _ h.sup).1
  have hs0 : J0.sup = J.sup := by rw [hJ0]; rfl
  have hr0 : J0.ring = J.ring := by rw [hJ0]; show c - 2 = _; omega
  have hf0 : J0.first = 0 := by rw [hJ0]; rfl
  have hl0 : J0.live = [] := by rw [hJ0]; rfl
  have hch : chn J0.sup.ed L := by rw [hs0]; exact h.ch
  have hdd : Dead J.ring D.S T J0.sup.ed L := by rw [hs0]; exact h.dead
  obtain ⟨k, hk, e, hst, hwh⟩ := ra_all (R := J.ring) ok0 h.bk hQ hf0 hr0 h.ring hR hl0 h.sub hch hdd
  have hok : ∀ t ∈ L, t.Ok := fun t ht => h.bk.ok t (h.sub t ht)
  have hlb : ∀ t ∈ L, t.b ≤ J0.sup.b := fun t ht => by have := h.low t (h.sub t ht); rw [hs0]; omega
  have hfu := h.full ok
  have hy : y ≤ k := ra_whole (R := J.ring) (J := J0) hok h.bk hQ hf0 hr0 h.ring hR hch hlb (by rw [hs0]; exact hfu) hk hst h.few (fun j hj hjy => h.whole j hj hjy)
  have hchk : chn J.sup.ed (L.take k) := by
    have h2 : chn J.sup.ed (L.take k ++ L.drop k) := by rw [List.take_append_drop]; exact h.ch
    exact ((chn_append _ _ _).1 h2).1
  have hlen : (L.take k).length = k := by rw [List.length_take]; omega
  have hsubk : ∀ t ∈ L.take k, t ∈ L := fun t ht => List.mem_of_mem_take ht
  refine ⟨k, hy, hk, ?_, ⟨⟨h.first, h.ring, h.c6, h.len, h.fail, h.qs, h.g, h.b, h.ser, ?_, ?_, rfl, rfl, by rw [hlen]; exact Nat.le_refl _, hchk, fun t ht => h.sub t (hsubk t ht), h.bk, h.low, h.low0, ?_, ?_, h.sup, h.oth⟩, fun q hq => by rw [hQ] at hq; simp at hq, fun m hm hy => by omega⟩⟩
  · unfold opR
    rw [(h.found hQ).1, ← hJ0, e]
  · have h1 := (of_last J (L.take k) hchk).1
    have h2 := aft_mono (L.drop k) (aft J.sup.ed (L.take k))
    rw [← aft_append, List.take_append_drop, ← h.at.1] at h2
    have h3 := h.nd
    show (J.of (L.take k)).nd ≤ _
    rw [h1]
    omega
  · have := h.lst
    rw [h.at.2.1] at this
    show J.sup.l + ((L.take k).map Tr.m).length ≤ _
    rw [List.length_map, hlen]
    omega
  · intro t ht hn k' hk' a1 a2 a3
    rw [hlen] at hk'
    have e2 : (L.take k).take k' = L.take k' := by rw [List.take_take, show min k' k = k' by omega]
    rw [e2] at a1 a3
    by_cases hm : t ∈ L
    · obtain ⟨m, hml, b1, b2⟩ := chn_num L _ h.ch t hm
      have e3 : (Su.ed J.sup).l = J.sup.l := rfl
      have hmk : m = k' := by
        have a2' : t.l = (Su.ed J.sup).l + k' + 1 := a2
        omega
      by_cases hlt : m < k
      · exfalso
        apply hn
        rw [← b1, List.mem_iff_getElem]
        exact ⟨m, by rw [hlen]; exact hlt, by rw [List.getElem_take]⟩
      · have hmk2 : m = k := by omega
        by_cases hex : ∃ j, j < t.n ∧ D.S.getD (t.at J.ring j) [] ≠ t.e j
        · exact hex
        · exfalso
          obtain ⟨o1, o2, o3, o4⟩ := of_last J0 (L.take k) (by rw [hs0]; exact hchk)
          rw [hs0] at o1 o2 o3 o4
          rw [show k' = k by omega] at a1 a3
          have hroom : t.n ≤ (J0.of (L.take k)).room := by
            have e5 : aft J.sup.ed L = aft ((aft J.sup.ed (L.take k)).step L[k]) (L.drop (k + 1)) := by
              conv => lhs; rw [← List.take_append_drop k L, aft_append, List.drop_eq_getElem_cons (by omega)]
              rfl
            have h1 := aft_mono (L.drop (k + 1)) ((aft J.sup.ed (L.take k)).step L[k])
            rw [← e5] at h1
            have h2 : (aft J.sup.ed (L.take k)).p + (L[k]).n ≤ J.sup.p + J.ring := Nat.le_trans h1 hfu
            have h3 : J.sup.p ≤ (aft J.sup.ed (L.take k)).p := aft_mono (L.take k) J.sup.ed
            have h4 : L[k] = t := by rw [← b1]; congr 1; omega
            rw [h4] at h2
            show _ ≤ J0.ring - ((J0.of (L.take k)).nd - J0.sup.p)
            rw [o1, hr0, hs0]
            omega
          have := rt_yes (J := J0.of (L.take k)) (D := D) (R := J.ring) hQ hf0 hr0 h.ring hR (hok t hm) (by rw [o1]; exact a1) (by rw [o2, aft_l, hlen]; show t.l = (Su.ed J.sup).l + k + 1; omega) (by rw [o3, o4]; exact a3) (hlb t hm) hroom (fun j hj => by
            by_cases e6 : D.S.getD (t.at J.ring j) [] = t.e j
            · exact e6
            · exact absurd ⟨j, hj, e6⟩ hex)
          rw [this.1] at hst
          simp at hst
    · exact h.dead t ht hm k' (by omega) a1 a2 a3
  · intro m hm hmk j hj
    rw [List.getElem_take] at hj ⊢
    have hml : m < L.length := by omega
    have hg : L.getD m ⟨0, 0, 0, 0, []⟩ = L[m] := by simp [hml]
    have := hwh m hmk j
    rw [hg] at this
    exact this hj
/-- Open. -/
theorem Cr0.open (h : Cr0 c i J D T L y) (hQ : D.Q = []) (h40 : c ≤ 40) (hi : i ≤ 100) {n : Nat} (ok : J.Ok n) : ∃ k, y ≤ k ∧ k ≤ L.length ∧ opE D 0 c = 0 ∧ (opR D 0 c).2 = (L.take k).map Tr.x ∧ (opJ D 0 c).sup.l = J.sup.l ∧ (opD D 0 c).Q = [] ∧ Cr c (i + 1) (opJ D 0 c) (opD D 0 c) T (L.take k) k := by
  obtain ⟨k, hy, hk, hr, hc⟩ := h.read hQ h40 ok
  have hfo := (h.found hQ).2
  have hg := h.g
  have hb := h.b
  have hso := (suG_ok _ _ h.sup).1
  unfold Su.Ok at hso
  have hrg := h.ring
  have hR : 4 ≤ J.ring := by have := h.c6; omega
  obtain ⟨J1, hJ1⟩ : ∃ J1, J1 = ((jn0 0 c).setS J.sup).of (L.take k) := ⟨_, rfl⟩
  rw [← hJ1] at hr
  have hs1 : J1.sup = J.sup := by rw [hJ1]; rfl
  have hf1 : J1.first = 0 := by rw [hJ1]; rfl
  have hU : (bgU J.sup).B = true := by
    unfold Su.B bgU sbB wiB
    simp only [List.all_cons, List.all_nil, Bool.and_eq_true, decide_eq_true_eq]
    refine ⟨⟨by omega, by omega⟩, by omega, by omega, by omega, by omega, by omega, by omega, trivial⟩
  have hBB : bgB J.sup = true := by
    unfold bgB wiB
    simp only [List.all_cons, List.all_nil, Bool.and_eq_true, decide_eq_true_eq]
    exact ⟨by omega, by omega, trivial⟩
  have hlen : (L.take k).length = k := by rw [List.length_take]; omega
  have okm : (aft J.sup.ed (L.take k)).p ≤ J.sup.p + J.ring := by
    have h2 := aft_mono (L.drop k) (aft J.sup.ed (L.take k))
    rw [← aft_append, List.take_append_drop] at h2
    exact Nat.le_trans h2 (h.full ok)
  obtain ⟨e0, d1, d2, d3, d4, d5, d6, d7⟩ := hc.super okm hU (show (bgU J.sup).g = J.sup.g + 1 from rfl) (J2 := J1) hf1
  have oE : opE D 0 c = 0 := by
    unfold opE
    rw [if_pos hfo, hr]
    unfold bgE
    rw [hs1, if_pos hBB, e0]
  have oJ : opJ D 0 c = J1.syn.setS (bgU J.sup) := by
    unfold opJ
    rw [hr]
    unfold bgJ
    rw [hs1, if_pos hBB, if_pos e0]
  have oD : opD D 0 c = stD J1 D (bgU J.sup) := by
    unfold opD
    rw [if_pos hfo, hr]
    unfold bgD
    rw [hs1, if_pos hBB]
  refine ⟨k, hy, hk, oE, by rw [hr], by rw [oJ]; rfl, by rw [oD]; exact d1, ?_⟩
  rw [oJ, oD]
  have hnd := hc.nd
  have hls := hc.lst
  have hrg1 : J1.ring = J.ring := by rw [hJ1]; show c - 2 = _; omega
  have hsy : J1.syn.synced = J.sup.l + k := by
    rw [hJ1]
    show J.sup.l + ((L.take k).map Tr.m).length = _
    rw [List.length_map, hlen]
  refine ⟨⟨hf1, by rw [← hrg, ← hrg1]; rfl, h.c6, d3, d2, by rw [d1]; exact Nat.zero_le _, ⟨by show 1 ≤ J.sup.g + 1; omega, by show J.sup.g + 1 ≤ _; omega⟩, ⟨by show 1 ≤ J.sup.b + 1; omega, by show J.sup.b + 1 ≤ _; omega⟩, by rw [hJ1]; exact Nat.zero_le _, ?_, ?_, by rw [hJ1]; rfl, hsy, hc.few, hc.ch, hc.sub, ?_, fun t ht => ?_, ?_, ?_, ?_, d6, d7⟩, fun q hq => by rw [d1] at hq; simp at hq, fun m hm hy => by omega⟩
  · refine Nat.le_trans ?_ (Nat.le_trans hnd (by omega))
    rw [hJ1]
    exact Nat.le_refl _
  · refine Nat.le_trans ?_ (Nat.le_trans hls (by omega))
    rw [hJ1]
    exact Nat.le_refl _
  · have : (J1.syn.setS (bgU J.sup)).ring = J.ring := hrg1
    rw [this]
    exact hc.bk.upd hc.sub d4
  · have := h.low t ht
    left
    show t.b < J.sup.b + 1
    omega
  · have := h.low0
    left
    show J.sup.x < J.sup.b + 1
    omega
  · have : (J1.syn.setS (bgU J.sup)).ring = J.ring := hrg1
    rw [this]
    exact hc.dead.upd hc.bk hc.sub h.ring hR d4
  · have : (J1.syn.setS (bgU J.sup)).ring = J.ring := hrg1
    rw [this]
    exact fun m hm _ => d5 m hm
end
end Go.Proofs.Ytgodlfoidjeekaa

namespace Go.Proofs.Ytgodlfoidjeekaa
set_option linter.unusedVariables false
set_option linter.unusedSimpArgs false
open Go.RowKit
set_option linter.unusedVariables false
set_option linter.unusedSimpArgs false

attribute [local go_sem ↓] Go.wp_at_zero Go.wp_at_succ

set_option maxRecDepth 100000 in
set_option maxHeartbeats 4000000 in
theorem begun_no (w : World) (c : Int) (h : c < 6 ∨ 40 < c) : Calls Try.prog 36 #[.int .i64 c] w fun e w' => e = .returned (.tuple #[.pointer none, .pointer none]) ∧ w = w' := by
  by_cases h1 : c < 6
  · go_enter Try.func36, Try.ntmps36
    go_wp2_with fail
    go_ret2
    exact ⟨rfl, rfl⟩
  · have h2 : 40 < c := by omega
    go_enter Try.func36, Try.ntmps36
    go_wp2_with fail
    go_ret2
    exact ⟨rfl, rfl⟩
set_option maxRecDepth 100000 in
set_option maxHeartbeats 4000000 in
theorem begun_any (w : World) (c : Nat) (h6 : 6 ≤ c) (h40 : c ≤ 40) : Calls Try.prog 36 #[.int .i64 (c : Int)] w fun e w' => ∃ s j J D, e = .returned (.tuple #[.pointer (some ⟨s, 0, none⟩), .pointer (some ⟨j, 0, none⟩)]) ∧ JS X00 w w' j s J D ∧ Rm c 0 J D [] ∧ D.S.length = c ∧ Fr (Zs X00 w w) w w' := by
  obtain ⟨a1, a2, a3, a4, a5, a6, a7, a8, a9, a10, a11, a12, a13, a14⟩ := bg_all c (by omega) h6
  have hol : (opD (fmtR (newS c) 0 c).1 0 c).S.length = c := by
    unfold opD
    split
    · unfold bgD
      split
      · rw [stD_len]; exact a13
      · exact a13
    · exact a13
  have hlv : (opJ (fmtR (newS c) 0 c).1 0 c).live = [] := List.eq_nil_of_length_eq_zero a8
  have hnd : (opJ (fmtR (newS c) 0 c).1 0 c).nd = 0 := by unfold Jn.nd Jn.last; rw [hlv]; simpa using a6
  have hrm : Rm c 0 (opJ (fmtR (newS c) 0 c).1 0 c) (opD (fmtR (newS c) 0 c).1 0 c) [] :=
    ⟨a3, a11, by omega, by omega, a5, by omega, by unfold Jn.lst; omega, by omega, by unfold Jn.lst; omega, by rw [hlv]; trivial⟩
  have HRM := hide hrm
  have HOL := hide hol
  clear a3 a4 a5 a6 a7 a8 a9 a10 a11 a12 hlv hnd hrm hol
  generalize hD1 : (fmtR (newS c) 0 c).1 = D1 at *
  have hc1 : ¬ (c : Int) < 6 := by omega
  have hc2 : ¬ (40 : Int) < (c : Int) := by omega
  have HNS := hide (newStore_any w (c : Int) (by omega))
  rw [Int.toNat_natCast] at HNS
  go_enter Try.func36, Try.ntmps36
  go_wp2_with fail
  refine (unhide HNS).mono ?_
  rintro e w1 ⟨s, sv, qv, rfl, hD, hB, f1⟩
  have HD1 : Hid (DW X00 w w1 s (newS c)) := hide ⟨⟨sv, qv, hD, fun b hb => .inr (hB b hb)⟩, f1.size⟩
  have F1 : Hid (Fr (Zs X00 w w) w w1) := hide (f1.mono (fun _ _ e => e.elim))
  clear hD hB f1 HNS
  have hfm := format_any (X := X00) (w0 := w) (w := w1) (s := s) (D := newS c) 0 c h6 (by show 0 + c ≤ (List.replicate c z384).length; simp) (by show (List.replicate c z384).length ≤ 1000; simp; omega) (by show 0 ≤ _; omega) (unhide HD1)
  rw [a1, hD1] at hfm
  have HFM := hide hfm
  clear hfm
  go_wp2_with fail
  refine (unhide HFM).mono ?_
  rintro e w2 ⟨rfl, hd2, f2⟩
  have HD2 : Hid (DW X00 w w2 s D1) := hide hd2
  have F2 := hide (zs_trans (unhide F1) f2)
  have hop := open_any (X := X00) (w0 := w) (w := w2) (s := s) (D := D1) 0 c h6 (by rw [a13]; omega) (by rw [a13]; omega) (by rw [a14]; omega) hd2
  have HOP := hide hop
  clear hd2 f2 HD1 F1 hop HFM
  go_wp2_with (go_at_call 18; refine (num_any _ _).mono ?_; rintro e w9 ⟨rfl, rfl⟩)
  refine (unhide HOP).mono ?_
  rintro e w3 (⟨h, -⟩ | ⟨-, j, v, rfl, hjn, hTl, hJS, f3⟩)
  · exact absurd a2 h
  obtain ⟨gs, -, hown, -⟩ := hTl.ex
  obtain ⟨vo, vc, rfl⟩ := owns_shape hown
  have HJ3 := hide hJS
  have F3 := hide (zs_trans (unhide F2) f3)
  clear hTl hown hJS f3 F2 HD2 HOP
  go_wp2_with (go_at_call 18; refine (num_any _ _).mono ?_; rintro e w9 ⟨rfl, rfl⟩)
  go_ret2
  exact ⟨s, j, _, _, rfl, unhide HJ3, unhide HRM, unhide HOL, unhide F3⟩
end Go.Proofs.Ytgodlfoidjeekaa

namespace Go.Proofs.Ytgodlfoidjeekaa
set_option linter.unusedVariables false
set_option linter.unusedSimpArgs false
open Go.RowKit
set_option linter.unusedVariables false
set_option linter.unusedSimpArgs false

attribute [local go_sem ↓] Go.wp_at_zero Go.wp_at_succ

theorem enG_z : enG z384 = none := by
  unfold enG
  rw [if_neg]
  rintro ⟨-, h, -⟩
  exact absurd h (by decide +kernel)
theorem fmW_eq (c : Nat) : ∀ n, fmW (newS c) 0 n = (⟨List.replicate c z384, (List.range n).map (fun i => (0 + 2 + i, z384)), -1⟩, 0) := by
  intro n
  induction n with
  | zero => rfl
  | succ n ih =>
    unfold fmW
    rw [ih, if_pos rfl]
    dsimp only
    rw [wr_new rfl, List.range_succ, List.map_append]
    rfl
theorem su1_B : (su1 1).B = true ∧ (su1 2).B = true := by decide +kernel
theorem fmS_eq (c : Nat) (D : Dv) (hf : D.fail = -1) : fmS (jn0 0 c) D 2 = (⟨D.S, D.Q ++ [(0, (su1 1).L)] ++ [(1, (su1 2).L)], -1⟩, 0) := by
  have e1 : fmS (jn0 0 c) D 1 = (⟨D.S, D.Q ++ [(0, (su1 1).L)], -1⟩, 0) := by
    show (if (0 : Int) = 0 then (wsD (jn0 0 c) D (su1 1), wsE D (su1 1)) else (D, 0)) = _
    rw [if_pos rfl]
    unfold wsD wsE
    rw [if_pos su1_B.1, if_pos su1_B.1, wr_new hf, (wr_neg hf 0 []).1]
    rfl
  show (if (fmS (jn0 0 c) D 1).2 = 0 then (wsD (jn0 0 c) (fmS (jn0 0 c) D 1).1 (su1 2), wsE (fmS (jn0 0 c) D 1).1 (su1 2)) else fmS (jn0 0 c) D 1) = _
  rw [e1, if_pos rfl]
  unfold wsD wsE
  rw [if_pos su1_B.2, if_pos su1_B.2, wr_new rfl, (wr_neg rfl 0 []).1]
  rfl
/-- What Format makes. -/
theorem fm_start (c : Nat) (h6 : 6 ≤ c) (h40 : c ≤ 40) : (fmtR (newS c) 0 c).2 = 0 ∧ (fmtR (newS c) 0 c).1.Q = [] ∧ Cr0 c 0 (⟨0, c - 2, su1 2, [], 0, 0⟩ : Jn) (fmtR (newS c) 0 c).1 [] [] 0 := by
  obtain ⟨D1, hD1⟩ : ∃ D, D = flD ⟨List.replicate c z384, (List.range (c - 2)).map (fun i => (0 + 2 + i, z384)), -1⟩ := ⟨_, rfl⟩
  have hlen : D1.S.length = c := by rw [hD1, flD_len]; simp
  have hz : ∀ a, a < c → D1.S.getD a [] = z384 := by
    intro a ha
    rw [hD1, flD_get]
    rcases foldl_any ((List.range (c - 2)).map (fun i => (0 + 2 + i, z384))) (List.replicate c z384) a with e | ⟨q, hq, -, e⟩
    · rw [e]
      simp [ha]
    · rw [e]
      obtain ⟨i, -, rfl⟩ := List.mem_map.1 hq
      rfl
  have hR : fmtR (newS c) 0 c = (flD ⟨D1.S, [] ++ [(0, (su1 1).L)] ++ [(1, (su1 2).L)], -1⟩, 0) := by
    unfold fmtR
    rw [fmW_eq, if_pos rfl]
    dsimp only
    rw [← hD1, fmS_eq c D1 (by rw [hD1]; rfl), if_pos rfl]
    have : D1.Q = [] := by rw [hD1]; rfl
    rw [this]
  have hS : ∀ a, (fmtR (newS c) 0 c).1.S.getD a [] = ((D1.S.set 0 (su1 1).L).set 1 (su1 2).L).getD a [] := by
    intro a
    rw [hR]
    show (flD _).S.getD a [] = _
    rw [flD_get]
    rfl
  have hS0 : (fmtR (newS c) 0 c).1.S.getD 0 [] = (su1 1).L := by
    rw [hS, getD_set_ne2 (by omega), getD_set_eq (by omega)]
  have hS1 : (fmtR (newS c) 0 c).1.S.getD 1 [] = (su1 2).L := by
    rw [hS, getD_set_eq (by rw [List.length_set]; omega)]
  have hL : (fmtR (newS c) 0 c).1.S.length = c := by rw [hR]; show (flD _).S.length = c; rw [flD_len]; exact hlen
  have hQ : (fmtR (newS c) 0 c).1.Q = [] := by rw [hR]; rfl
  have hF : (fmtR (newS c) 0 c).1.fail = -1 := by rw [hR]; rfl
  have hE : (fmtR (newS c) 0 c).2 = 0 := by rw [hR]
  generalize (fmtR (newS c) 0 c) = F at *
  refine ⟨hE, hQ, rfl, show c - 2 + 2 = c by omega, h6, hL, hF, by rw [hQ]; exact Nat.le_refl _, ⟨show 1 ≤ 2 by omega, show 2 ≤ 3 + 0 by omega⟩, ⟨show 1 ≤ 1 by omega, show 1 ≤ 2 + 0 by omega⟩, Nat.le_refl _, Nat.le_refl _, Nat.le_refl _, rfl, rfl, Nat.le_refl _, trivial, fun t ht => by simp at ht, ⟨fun t ht => by simp at ht, fun t ht => by simp at ht, fun a h1 h2 => .inl ?_⟩, fun t ht => by simp at ht, .inl (show 0 < 1 by omega), fun t ht => by simp at ht, fun m hm => by simp at hm, ?_, fun _ => ?_⟩
  · rw [hS, getD_set_ne2 (by omega), getD_set_ne2 (by omega), hz a h2]
    exact enG_z
  · show suG (F.1.S.getD (1 - (su1 2).g % 2) []) = some (su1 2)
    rw [show 1 - (su1 2).g % 2 = 1 by decide, hS1]
    exact su_rd su1_B.2
  · show (suR (F.1.S.getD ((su1 2).g % 2) [])).g < (su1 2).g
    rw [show (su1 2).g % 2 = 0 by decide, hS0, (su_some (su_rd su1_B.1)).2]
    decide
theorem start_ok (c : Nat) (h6 : 6 ≤ c) (h40 : c ≤ 40) : (⟨0, c - 2, su1 2, [], 0, 0⟩ : Jn).Ok c := (jn0_ok 0 c c h6 (by omega) (by omega)).setS rfl (su1 2) (by unfold Su.Ok su1; decide)
/-- A journal that is opened on it. -/
theorem op_start (c : Nat) (h6 : 6 ≤ c) (h40 : c ≤ 40) : opE (fmtR (newS c) 0 c).1 0 c = 0 ∧ (opJ (fmtR (newS c) 0 c).1 0 c).sup.l = 0 ∧ Cr c 1 (opJ (fmtR (newS c) 0 c).1 0 c) (opD (fmtR (newS c) 0 c).1 0 c) [] [] 0 := by
  obtain ⟨h1, h2, h3⟩ := fm_start c h6 h40
  obtain ⟨k, -, hk, e1, -, e3, -, e5⟩ := h3.open h2 h40 (by omega) (start_ok c h6 h40)
  have hk0 : k = 0 := by simpa using hk
  subst hk0
  exact ⟨e1, e3, e5⟩
set_option maxRecDepth 100000 in
set_option maxHeartbeats 4000000 in
theorem begun2_any (w : World) (c : Nat) (h6 : 6 ≤ c) (h40 : c ≤ 40) : Calls Try.prog 36 #[.int .i64 (c : Int)] w fun e w' => ∃ s j J D, e = .returned (.tuple #[.pointer (some ⟨s, 0, none⟩), .pointer (some ⟨j, 0, none⟩)]) ∧ JS X00 w w' j s J D ∧ J.sup.l = 0 ∧ Cr c 1 J D [] [] 0 ∧ Fr (Zs X00 w w) w w' := by
  obtain ⟨a1, a14, hC0⟩ := fm_start c h6 h40
  obtain ⟨a2, hsl, hrm⟩ := op_start c h6 h40
  have a13 := hC0.len
  have HRM := hide hrm
  have HOL := hide hsl
  clear hrm hsl hC0
  generalize hD1 : (fmtR (newS c) 0 c).1 = D1 at *
  have hc1 : ¬ (c : Int) < 6 := by omega
  have hc2 : ¬ (40 : Int) < (c : Int) := by omega
  have HNS := hide (newStore_any w (c : Int) (by omega))
  rw [Int.toNat_natCast] at HNS
  go_enter Try.func36, Try.ntmps36
  go_wp2_with fail
  refine (unhide HNS).mono ?_
  rintro e w1 ⟨s, sv, qv, rfl, hD, hB, f1⟩
  have HD1 : Hid (DW X00 w w1 s (newS c)) := hide ⟨⟨sv, qv, hD, fun b hb => .inr (hB b hb)⟩, f1.size⟩
  have F1 : Hid (Fr (Zs X00 w w) w w1) := hide (f1.mono (fun _ _ e => e.elim))
  clear hD hB f1 HNS
  have hfm := format_any (X := X00) (w0 := w) (w := w1) (s := s) (D := newS c) 0 c h6 (by show 0 + c ≤ (List.replicate c z384).length; simp) (by show (List.replicate c z384).length ≤ 1000; simp; omega) (by show 0 ≤ _; omega) (unhide HD1)
  rw [a1, hD1] at hfm
  have HFM := hide hfm
  clear hfm
  go_wp2_with fail
  refine (unhide HFM).mono ?_
  rintro e w2 ⟨rfl, hd2, f2⟩
  have HD2 : Hid (DW X00 w w2 s D1) := hide hd2
  have F2 := hide (zs_trans (unhide F1) f2)
  have hop := open_any (X := X00) (w0 := w) (w := w2) (s := s) (D := D1) 0 c h6 (by rw [a13]; omega) (by rw [a13]; omega) (by rw [a14]; exact Nat.succ_pos _) hd2
  have HOP := hide hop
  clear hd2 f2 HD1 F1 hop HFM
  go_wp2_with (go_at_call 18; refine (num_any _ _).mono ?_; rintro e w9 ⟨rfl, rfl⟩)
  refine (unhide HOP).mono ?_
  rintro e w3 (⟨h, -⟩ | ⟨-, j, v, rfl, hjn, hTl, hJS, f3⟩)
  · exact absurd a2 h
  obtain ⟨gs, -, hown, -⟩ := hTl.ex
  obtain ⟨vo, vc, rfl⟩ := owns_shape hown
  have HJ3 := hide hJS
  have F3 := hide (zs_trans (unhide F2) f3)
  clear hTl hown hJS f3 F2 HD2 HOP
  go_wp2_with (go_at_call 18; refine (num_any _ _).mono ?_; rintro e w9 ⟨rfl, rfl⟩)
  go_ret2
  exact ⟨s, j, _, _, rfl, unhide HJ3, unhide HOL, unhide HRM, unhide F3⟩
end Go.Proofs.Ytgodlfoidjeekaa

namespace Go.Proofs.Ytgodlfoidjeekaa
set_option linter.unusedVariables false
set_option linter.unusedSimpArgs false
open Go.RowKit Go.Lib
set_option linter.unusedVariables false
set_option linter.unusedSimpArgs false

attribute [local go_sem ↓] Go.wp_at_zero Go.wp_at_succ

set_option maxHeartbeats 8000000 in
set_option maxRecDepth 100000 in
theorem same_any (w : World) (v u : Value) (ls ms : List (Int × List UInt8)) (h1 : RdP w v ls) (h2 : RdP w u ms) (hl : ls.length ≤ 100000) :
    Calls Try.prog 28 #[v, u] w fun e w' => e = .returned (.bool (decide (ls = ms))) ∧ Fr (fun _ => False) w w' := by
  have H1 := hide h1
  have H2 := hide h2
  obtain ⟨ao, ac, rfl⟩ := h1.shape
  obtain ⟨bo, bc, rfl⟩ := h2.shape
  clear h1 h2
  by_cases he : ls.length = ms.length
  · rw [← he] at H2 ⊢
    have HE := hide he
    clear he
    obtain ⟨n, hn⟩ : ∃ n, n = ls.length := ⟨_, rfl⟩
    rw [← hn] at H1 H2 hl ⊢
    have HN := hide hn
    clear hn
    go_enter Try.func28, Try.ntmps28
    go_wp2_with fail
    go_loopw [5] (fun x w' => ∃ i : Nat, i ≤ n ∧ x = .int .i64 (i : Int) ∧ ls.take i = ms.take i ∧ Fr (fun _ => False) w w') (fun x _ => n - (intOf x).toNat)
    case atStart => exact ⟨0, by omega, rfl, by simp, Fr.refl _ _⟩
    case round =>
      obtain ⟨i, hi, rfl, ht, hf⟩ := hrel
      by_cases hlt : i < n
      · have i1 : i < ls.length := by have := unhide HN; omega
        have i2 : i < ms.length := by have := unhide HN; have := unhide HE; omega
        obtain ⟨b1, o1, cap1, x1, y1, q1, a1, c1, r1⟩ := (unhide H1).get hf i i1
        obtain ⟨b2, o2, cap2, x2, y2, q2, a2, c2, r2⟩ := (unhide H2).get hf i i2
        simp at y1 y2
        obtain ⟨rfl, -, rfl⟩ := y1
        obtain ⟨rfl, -, rfl⟩ := y2
        have g1 : i < ac := by omega
        have g2 : i < bc := by omega
        have k1 := fun j => conv_rd (P := Try.prog) (r1.kept (Fr.ofDrewN (S := fun _ => False) wr j) (fun _ _ h => h)) 23 9 5 Try.underlying23 Try.underlying5 Try.underlying9
        have k2 := fun j => conv_rd (P := Try.prog) (r2.kept (Fr.ofDrewN (S := fun _ => False) wr j) (fun _ _ h => h)) 23 9 5 Try.underlying23 Try.underlying5 Try.underlying9
        obtain ⟨s1, e1, w1, rfl⟩ : ∃ ao n c, x1 = .slice ao n c := by obtain ⟨ao, c, e⟩ := r1.shape; exact ⟨ao, _, c, e⟩
        obtain ⟨s2, e2, w2, rfl⟩ : ∃ ao n c, x2 = .slice ao n c := by obtain ⟨ao, c, e⟩ := r2.shape; exact ⟨ao, _, c, e⟩
        have HT := hide ht
        have Hf := hide hf
        have T1 := hide (List.take_succ_eq_append_getElem i1)
        have T2 := hide (List.take_succ_eq_append_getElem i2)
        have HG := hide (show ls = ms → ls[i] = ms[i] by rintro rfl; rfl)
        generalize ls[i] = li at *
        generalize ms[i] = mi at *
        obtain ⟨z1, t1⟩ := li
        obtain ⟨z2, t2⟩ := mi
        simp only at a1 a2 k1 k2 r1 r2
        have hs := str_eq t1 t2
        clear ht hf r1 r2 q1 q2 i1 i2
        by_cases hz : z1 = z2
        · subst hz
          by_cases hd : t1 = t2
          · have hb : ((str t1).toList == (str t2).toList) = true := by rw [hs]; simpa using hd
            have HD := hide hd
            clear hs hd
            generalize str t1 = s1' at *
            generalize str t2 = s2' at *
            go_wp2_with fail
            go_quiet (fail)
            go_wp2_with fail
            go_roundw
            case rel => exact ⟨i + 1, by omega, by go_num, by rw [unhide T1, unhide T2, unhide HT, unhide HD], (unhide Hf).drewN _⟩
            case measure => simp [intOf]; omega
          · have hb : ((str t1).toList == (str t2).toList) = false := by rw [hs]; simpa using hd
            have HD := hide hd
            clear hs hd
            generalize str t1 = s1' at *
            generalize str t2 = s2' at *
            go_wp2_with fail
            go_quiet (fail)
            go_wp2_with fail
            go_ret
            have e : decide (ls = ms) = false := by
              simp only [decide_eq_false_iff_not]
              exact fun h => unhide HD (by have := unhide HG h; simpa using this)
            rw [e]
            exact ⟨rfl, (unhide Hf).drewN _⟩
        · have hb : (z1 == z2) = false := by simpa using hz
          have HD := hide hz
          clear hs k1 k2
          go_wp2_with fail
          go_quiet (fail)
          go_wp2_with fail
          go_ret
          have e : decide (ls = ms) = false := by
            simp only [decide_eq_false_iff_not]
            exact fun h => unhide HD (by have := unhide HG h; simp at this; exact this.1)
          rw [e]
          exact ⟨rfl, (unhide Hf).drewN _⟩
      · have HT := hide ht
        have Hf := hide hf
        clear ht hf
        go_wp2_with fail
        go_ret
        have e : decide (ls = ms) = true := by
          simp only [decide_eq_true_eq]
          have h := unhide HT
          rwa [List.take_of_length_le (by have := unhide HN; omega), List.take_of_length_le (by have := unhide HN; have := unhide HE; omega)] at h
        rw [e]
        exact ⟨rfl, unhide Hf⟩
  · have e : decide (ls = ms) = false := by
      simp only [decide_eq_false_iff_not]
      rintro rfl
      exact he rfl
    rw [e]
    have hb : ((ls.length : Int) != (ms.length : Int)) = true := by
      simp only [bne_iff_ne, ne_eq]; omega
    clear he e
    go_enter Try.func28, Try.ntmps28
    go_wp2_with fail
    go_ret
    exact ⟨rfl, Fr.refl _ _⟩
end Go.Proofs.Ytgodlfoidjeekaa

namespace Go.Proofs.Ytgodlfoidjeekaa
set_option linter.unusedVariables false
set_option linter.unusedSimpArgs false
open Go.RowKit
set_option linter.unusedVariables false
set_option linter.unusedSimpArgs false

attribute [local go_sem ↓] Go.wp_at_zero Go.wp_at_succ

/-- Puts in blocks of these kinds. -/
def PK (w : World) (v : Value) (ps : List (Int × List UInt8)) : Prop := ∃ (B cap : Nat), v = .slice (some ⟨B, 0, none⟩) ps.length cap ∧ ps.length ≤ cap ∧ cap ≤ maxLen ∧ knd w B = 94 ∧
  ∀ j (h : j < ps.length), w.cell? ⟨B, j * 2, none⟩ = some (.int .i64 (ps[j]).1) ∧ ∃ x, w.cell? ⟨B, j * 2 + 1, none⟩ = some x ∧ Rd w x (ps[j]).2 ∧ ∀ b, x.ownBlock = some b → knd w b = 5
theorem PK.rdp {w : World} {v : Value} {ps : List (Int × List UInt8)} (h : PK w v ps) : RdP w v ps := by
  obtain ⟨B, cap, rfl, h1, h2, -, h3⟩ := h
  refine .inr ⟨B, 0, cap, rfl, h1, h2, fun j hj => ?_⟩
  obtain ⟨c0, x, c1, r, -⟩ := h3 j hj
  rw [Nat.zero_add]
  exact ⟨c0, x, c1, r⟩
theorem PK.kept {w w' : World} {v : Value} {ps : List (Int × List UInt8)} {S : Nat → Prop} (h : PK w v ps) (f : Fr S w w') (hs : ∀ k, S k → knd w k ≠ 94 ∧ knd w k ≠ 5) : PK w' v ps := by
  obtain ⟨B, cap, rfl, h1, h2, h3, h4⟩ := h
  have hB : B < w.heap.size := knd_lt h3 (by decide)
  have hSB : ¬ S B := fun e => (hs B e).1 h3
  refine ⟨B, cap, rfl, h1, h2, by rw [knd_fr f hSB hB, h3], fun j hj => ?_⟩
  obtain ⟨c0, x, c1, r, k⟩ := h4 j hj
  refine ⟨by rw [f.cell hB hSB]; exact c0, x, by rw [f.cell hB hSB]; exact c1, r.kept f (fun b hb e => (hs b e).2 (k b hb)), fun b hb => ?_⟩
  have := k b hb
  rw [knd_fr f (fun e => (hs b e).2 this) (knd_lt this (by decide)), this]
theorem PK.one {w : World} {v : Value} {ps : List (Int × List UInt8)} (h : PK w v ps) : v.oneCell' = true := by
  obtain ⟨B, cap, rfl, -⟩ := h
  rfl
theorem ob_knd {M : Nat} {w : World} {x : Value} {l : List UInt8} (h : Ob M w x l) : ∀ b, x.ownBlock = some b → knd w b = 5 := fun b hb => by
  obtain ⟨-, -, cs, hc⟩ := own_ge h b hb
  exact knd_cells hc
theorem PO.pk {M : Nat} {w : World} {v : Value} {ps : List (Int × List UInt8)} (h : PO M w v ps) (h0 : 0 < ps.length) : PK w v ps := by
  obtain ⟨ts, h1, h2, h3⟩ := h
  rcases id h2.2 with ⟨hv, hn⟩ | ⟨g, cap, cur, rfl, hb, hg, hnc, hcm, hcs, htake⟩
  · omega
  · refine ⟨g, cap, rfl, hnc, hcm, knd_cells hg, fun j hj => ?_⟩
    subst h1
    have hj' : j < ts.length := by simpa using hj
    have hl := pc_length ts
    obtain ⟨g1, g2⟩ := pc_get ts j hj'
    have c1 := World.ownsRow.cellAt h2 (j * 2) (by simp; omega)
    have c2 := World.ownsRow.cellAt h2 (j * 2 + 1) (by simp; omega)
    refine ⟨?_, (ts[j]).2.1, c2.trans g2, ?_, ob_knd (h3 _ (List.getElem_mem hj'))⟩
    · rw [c1, g1]; simp
    · have := Rd.of_owns (h3 _ (List.getElem_mem hj'))
      simpa using this
theorem PAt.pk {M : Nat} {w : World} {G : Nat} {l : List UInt8} (h : PAt M w G (gtN l) (gtN l) l) (hg : gtB l = true) : PK w (.slice (some ⟨G, 0, none⟩) (gtN l) (gtN l)) (gtL l) := by
  obtain ⟨cs, h1, h2, h3⟩ := h
  obtain ⟨hn, -, -⟩ := gt_of hg
  have hl := gtL_length l
  refine ⟨G, gtN l, by rw [hl], by rw [hl]; exact Nat.le_refl _, by unfold maxLen; omega, knd_cells h1, fun j hj => ?_⟩
  obtain ⟨c0, x, c1, ho⟩ := h3 j (by rw [← hl]; exact hj)
  rw [gtL_get hj]
  refine ⟨by rw [cell_of_heap h1]; exact c0, x, by rw [cell_of_heap h1]; exact c1, ?_, ob_knd ho⟩
  exact Rd.of_owns (own_low ho (fun _ _ => Nat.zero_le _))
/-- Transactions in a block of their own, from some place on. -/
def Lp (w : World) (v : Value) (ls : List (List (Int × List UInt8))) : Prop := ∃ ts : List (Value × List (Int × List UInt8)), ts.map Prod.snd = ls ∧ (∀ t ∈ ts, PK w t.1 t.2) ∧ ((v = .slice none 0 0 ∧ ts = []) ∨
  ∃ (g off cap : Nat) (cur : Array Value), v = .slice (some ⟨g, off, none⟩) ts.length cap ∧ w.heap[g]? = some (.cells cur 28 (0, 0)) ∧ off + cap ≤ cur.size ∧ ts.length ≤ cap ∧ cap ≤ maxLen ∧ ∀ j (h : j < ts.length), cur[off + j]? = some (ts[j]).1)
theorem Lp.nil (w : World) : Lp w (.slice none 0 0) [] := ⟨[], rfl, fun t h => by simp at h, .inl ⟨rfl, rfl⟩⟩
theorem Lp.shape {w : World} {v : Value} {ls : List (List (Int × List UInt8))} (h : Lp w v ls) : ∃ ao c, v = .slice ao ls.length c := by
  obtain ⟨ts, rfl, -, ⟨rfl, rfl⟩ | ⟨g, off, cap, cur, rfl, -⟩⟩ := h
  · exact ⟨_, _, rfl⟩
  · exact ⟨_, _, by rw [List.length_map]⟩
theorem Lp.kn {w : World} {v : Value} {ls : List (List (Int × List UInt8))} (h : Lp w v ls) : ∀ b, v.ownBlock = some b → knd w b = 28 ∧ b < w.heap.size := by
  intro b e
  obtain ⟨ts, -, -, ⟨rfl, -⟩ | ⟨g, off, cap, cur, rfl, h1, -⟩⟩ := h
  · simp [Value.ownBlock] at e
  · simp [Value.ownBlock] at e
    subst e
    exact ⟨knd_cells h1, lt_of_heap h1⟩
theorem Lp.kept {w w' : World} {v : Value} {ls : List (List (Int × List UInt8))} {S : Nat → Prop} (h : Lp w v ls) (f : Fr S w w') (hs : ∀ k, S k → knd w k ≠ 94 ∧ knd w k ≠ 5) (hb : ∀ b, v.ownBlock = some b → ¬ S b) : Lp w' v ls := by
  obtain ⟨ts, h1, h2, h3⟩ := h
  refine ⟨ts, h1, fun t ht => (h2 t ht).kept f hs, ?_⟩
  rcases h3 with h3 | ⟨g, off, cap, cur, rfl, h4, h5⟩
  · exact .inl h3
  · exact .inr ⟨g, off, cap, cur, rfl, (f.block _ (lt_of_heap h4) (hb g rfl)).trans h4, h5⟩
theorem Lp.kept0 {w w' : World} {v : Value} {ls : List (List (Int × List UInt8))} (h : Lp w v ls) (f : Fr (fun _ => False) w w') : Lp w' v ls := h.kept f (fun _ e => e.elim) (fun _ _ e => e)
theorem Lp.zs {X : Nat → Prop} {w0 w w' : World} {v : Value} {ls : List (List (Int × List UInt8))} (h : Lp w v ls) (f : Fr (Zs X w0 w) w w') : Lp w' v ls := h.kept f (fun k e => by
  have := e.1
  unfold KD KJ at this
  omega) (fun b hb e => by
  have := (h.kn b hb).1
  have := e.1
  unfold KD KJ at this
  omega)
/-- One of them. -/
theorem Lp.get {w : World} {v : Value} {ls : List (List (Int × List UInt8))} (h : Lp w v ls) (j : Nat) (hj : j < ls.length) : ∃ g off cap u, v = .slice (some ⟨g, off, none⟩) ls.length cap ∧ ls.length ≤ cap ∧ w.cell? ⟨g, off + j, none⟩ = some u ∧ PK w u ls[j] := by
  obtain ⟨ts, rfl, h2, ⟨rfl, rfl⟩ | ⟨g, off, cap, cur, rfl, h4, h5, h6, h7, h8⟩⟩ := h
  · simp at hj
  · have hj' : j < ts.length := by simpa using hj
    refine ⟨g, off, cap, (ts[j]).1, by rw [List.length_map], by rw [List.length_map]; exact h6, by rw [cell_of_heap h4]; exact h8 j hj', ?_⟩
    rw [List.getElem_map]
    exact h2 _ (List.getElem_mem hj')
theorem Lp.take {w : World} {ao : Option Addr} {n c : Nat} {ls : List (List (Int × List UInt8))} (h : Lp w (.slice ao n c) ls) (m : Nat) (hm : m ≤ ls.length) : Lp w (.slice ao m c) (ls.take m) ∧ m ≤ c := by
  obtain ⟨ts, rfl, h2, ⟨e, rfl⟩ | ⟨g, off, cap, cur, e, h4, h5, h6, h7, h8⟩⟩ := h
  · simp at hm
    subst hm
    simp at e
    obtain ⟨rfl, rfl, rfl⟩ := e
    exact ⟨Lp.nil w, by omega⟩
  · simp at e
    obtain ⟨rfl, rfl, rfl⟩ := e
    have hm' : m ≤ ts.length := by simpa using hm
    refine ⟨⟨ts.take m, by rw [List.map_take], fun t ht => h2 t (List.mem_of_mem_take ht), .inr ⟨g, off, c, cur, by rw [List.length_take, show min m ts.length = m by omega], h4, h5, by rw [List.length_take]; omega, h7, fun j hj => ?_⟩⟩, by omega⟩
    rw [List.length_take] at hj
    rw [List.getElem_take]
    exact h8 j (by omega)
theorem Lp.cut {w : World} {v : Value} {ls : List (List (Int × List UInt8))} (h : Lp w v ls) (k : Nat) (h0 : 0 < k) (hk : k ≤ ls.length) : ∃ g off cap, v = .slice (some ⟨g, off, none⟩) ls.length cap ∧ ls.length ≤ cap ∧ (k < cap → Lp w (.slice (some ⟨g, off + k, none⟩) (ls.length - k) (cap - k)) (ls.drop k)) ∧ (¬ k < cap → cap = k ∧ ls.length = k ∧ Lp w (.slice (some ⟨g, off, none⟩) 0 0) (ls.drop k)) := by
  obtain ⟨ts, rfl, h2, ⟨rfl, rfl⟩ | ⟨g, off, cap, cur, rfl, h4, h5, h6, h7, h8⟩⟩ := h
  · simp at hk; omega
  · have hk' : k ≤ ts.length := by simpa using hk
    refine ⟨g, off, cap, by rw [List.length_map], by rw [List.length_map]; exact h6, fun hc => ?_, fun hc => ?_⟩
    · refine ⟨ts.drop k, by rw [List.map_drop], fun t ht => h2 t (List.mem_of_mem_drop ht), .inr ⟨g, off + k, cap - k, cur, by rw [List.length_map, List.length_drop], h4, by omega, by rw [List.length_drop]; omega, by omega, fun j hj => ?_⟩⟩
      rw [List.length_drop] at hj
      rw [List.getElem_drop, show off + k + j = off + (k + j) by omega]
      exact h8 (k + j) (by omega)
    · have hck : cap = k := by omega
      have htk : ts.length = k := by omega
      refine ⟨hck, by rw [List.length_map]; exact htk, ⟨[], by rw [← List.map_drop, List.drop_of_length_le (by omega)], fun t ht => by simp at ht, .inr ⟨g, off, 0, cur, rfl, h4, by omega, Nat.le_refl _, by omega, fun j hj => by simp at hj⟩⟩⟩
theorem Tl.lp {N : Nat} {w : World} {v : Value} {xs : List (List UInt8)} (h : Tl N w v xs) (hg : ∀ x ∈ xs, gtB x = true) : Lp w v (xs.map gtL) := by
  obtain ⟨⟨gs, h1, h2, h3⟩, -⟩ := h
  refine ⟨(tlV gs xs).zip (xs.map gtL), ?_, ?_, ?_⟩
  · rw [List.map_snd_zip]
    unfold tlV
    simp [h1]
  · intro t ht
    obtain ⟨i, hi, rfl⟩ := List.mem_iff_getElem.1 ht
    rw [List.length_zip, List.length_map] at hi
    have hi' : i < xs.length := by omega
    obtain ⟨g, e, -, hp⟩ := h3 i hi'
    rw [List.getElem_zip]
    have he : gs[i]'(by omega) = g := by
      rw [List.getElem?_eq_getElem (by omega)] at e
      simpa using e
    have e1 : (tlV gs xs)[i]'(by unfold tlV; simp; omega) = .slice (some ⟨g, 0, none⟩) (gtN xs[i]) (gtN xs[i]) := by
      unfold tlV
      rw [List.getElem_map, List.getElem_zip]
      simp only [he]
    rw [e1, List.getElem_map]
    exact hp.pk (hg _ (List.getElem_mem hi'))
  · have hz : (tlV gs xs).length = xs.length := by unfold tlV; simp; omega
    have hzl : ((tlV gs xs).zip (xs.map gtL)).length = xs.length := by rw [List.length_zip, hz, List.length_map]; omega
    rcases id h2.2 with ⟨hv, hn⟩ | ⟨g, cap, cur, rfl, hb, hgg, hnc, hcm, hcs, htake⟩
    · exact .inl ⟨hv, List.eq_nil_of_length_eq_zero (by rw [hzl, hn])⟩
    · refine .inr ⟨g, 0, cap, cur, by rw [hzl], hgg, by omega, by rw [hzl]; exact hnc, hcm, fun j hj => ?_⟩
      rw [hzl] at hj
      have c1 := World.ownsRow.cellAt h2 j (by omega)
      rw [cell_of_heap hgg] at c1
      rw [Nat.zero_add, c1, List.getElem?_eq_getElem (by omega), List.getElem_zip]
/-- append of one. -/
theorem run_appP (w : World) (v : Value) (ls : List (List (Int × List UInt8))) (h : Lp w v ls) (u : Value) (p : List (Int × List UInt8)) (hu : PK w u p) (b : Nat) (hb : w.heap[b]? = some (.cells #[u] 28 (0, 0))) (hl : ls.length ≤ 1000) :
    ∃ v' w', (Builtin.append_ #[79, 79] 79 #[v, .slice (some ⟨b, 0, none⟩) 1 1]).run Try.prog w = .ok v' w' ∧ Lp w' v' (ls ++ [p]) ∧ Fr (fun k => v.ownBlock = some k) w w' ∧ (v'.ownBlock = v.ownBlock ∨ v'.ownBlock = some w.heap.size) := by
  obtain ⟨inf, hi, hz0, hz1, hz2⟩ := info_parts Try.info28
  have hu1 := hu.one
  have hnews : ∀ j x, ([u] : List Value)[j]? = some x → w.cell? ((⟨b, 0, none⟩ : Addr).add j) = some x := fun j x hx => by
    rw [Addr.add_lit, Nat.zero_add, cell_of_heap hb]
    simpa using hx
  have hkn := h.kn
  obtain ⟨ts, rfl, h2, ⟨rfl, rfl⟩ | ⟨g, off, cap, cur, rfl, h4, h5, h6, h7, h8⟩⟩ := h
  · obtain ⟨v', w', hr, ho, hg, hn⟩ := run_app (P := Try.prog) w 79 79 28 inf _ 1 24 Try.u79 hi hz0 hz1 hz2 rfl (by decide) (.slice none 0 0) 0 [] (World.ownsRow_nil _ _ _ _) _ 1 [u] (.inr ⟨_, _, rfl, rfl, hnews⟩) (fun x hx => by simp at hx; subst hx; exact hu1) (by omega) (by simp [maxLen])
    have f : Fr (fun k => (Value.slice none 0 0).ownBlock = some k) w w' := (Fr.refl _ _).grown hg (fun k _ e => e)
    refine ⟨v', w', hr, ⟨[(u, p)], rfl, fun t ht => ?_, ?_⟩, f, hn⟩
    · simp at ht
      subst ht
      exact hu.kept f (fun k e => by simp [Value.ownBlock] at e)
    · rcases id ho.2 with ⟨hv, hn⟩ | ⟨g, cap, cur, rfl, hb', hg', hnc, hcm, hcs, htake⟩
      · omega
      · refine .inr ⟨g, 0, cap, cur, by simp, hg', by omega, by simpa using hnc, hcm, fun j hj => ?_⟩
        have hj0 : j = 0 := by simp at hj; omega
        subst hj0
        have h9 := World.ownsRow.cellAt ho 0 (by omega)
        rw [cell_of_heap hg'] at h9
        simpa using h9
  · rw [List.length_map] at hl
    by_cases hroom : ts.length + 1 ≤ cap
    · have hr := run_append_room_src (P := Try.prog) w 79 79 79 28 inf Try.u79 hi g off ts.length cap _ 1 [u] (Src.ofSlice w Try.u79 ⟨b, 0, none⟩ 1 1 _ (by rw [hz1]; rfl) hnews (fun x hx => by simp at hx; subst hx; exact hu1)) hroom
        (fun j hj => by
          have hj0 : j = 0 := by simp at hj; omega
          subst hj0
          rw [cell_of_heap h4, hz1]
          simp
          omega)
        (fun j hj => frozen_of_heap h4 _)
      rw [hz1] at hr
      simp only [Nat.mul_one, World.setCells] at hr
      have hs := heap_setCell_same w g (off + ts.length) _ 28 u h4
      have f : Fr (fun k => (Value.slice (some ⟨g, off, none⟩) ts.length cap).ownBlock = some k) w (w.setCell ⟨g, off + ts.length, none⟩ u) := (Fr.refl (fun k => (Value.slice (some ⟨g, off, none⟩) ts.length cap).ownBlock = some k) w).setCell (p := ⟨g, off + ts.length, none⟩) (fun _ => rfl) _
      have hk : ∀ k, (Value.slice (some ⟨g, off, none⟩) ts.length cap).ownBlock = some k → knd w k ≠ 94 ∧ knd w k ≠ 5 := fun k e => by
        have := (hkn k e).1
        omega
      refine ⟨_, _, hr, ⟨ts ++ [(u, p)], by simp, fun t ht => ?_, .inr ⟨g, off, cap, _, by simp, hs, by simpa using h5, by simpa using hroom, h7, fun j hj => ?_⟩⟩, f, .inl rfl⟩
      · rcases List.mem_append.1 ht with e | e
        · exact (h2 t e).kept f hk
        · simp at e; subst e; exact hu.kept f hk
      · by_cases e : j < ts.length
        · rw [Array.getElem?_setIfInBounds_ne (by omega), h8 j e, List.getElem_append_left e]
        · have ej : j = ts.length := by simp at hj; omega
          subst ej
          rw [Array.getElem?_setIfInBounds_self_of_lt (by omega)]
          simp
    · have holds : ∀ j x, (ts.map Prod.fst)[j]? = some x → w.cell? ((⟨g, off, none⟩ : Addr).add j) = some x := fun j x hx => by
        have hj : j < ts.length := by have := (List.getElem?_eq_some_iff.1 hx).1; simpa using this
        rw [Addr.add_lit, cell_of_heap h4, h8 j hj]
        rw [List.getElem?_map, List.getElem?_eq_getElem hj] at hx
        simpa using hx
      have hr := run_append_grow (P := Try.prog) w 79 79 28 inf _ Try.u79 hi hz0 ⟨g, off, none⟩ ts.length cap (ts.map Prod.fst) (by rw [hz1]; simp) holds ⟨b, 0, none⟩ 1 1 [u] (by rw [hz1]; rfl) hnews (by omega) (by omega) (growslice_fits (by omega) (by rw [hz2]; omega))
      have hge := grownCap_ge w (ts.length + 1) cap 28
      have hcm : grownCap w (ts.length + 1) cap 28 ≤ maxLen := grownCap_le_maxLen w (ts.length + 1) cap 28 (by simp only [maxLen]; omega)
      refine ⟨_, _, hr, ⟨ts ++ [(u, p)], by simp, fun t ht => ?_, .inr ⟨w.heap.size, 0, _, _, by simp, heap_alloc_new w.drew _, ?_, by simpa using hge, hcm, fun j hj => ?_⟩⟩, ((Fr.refl _ _).drew.alloc _), .inr rfl⟩
      · refine PK.kept (w := w) ?_ (show Fr (fun _ => False) w _ from (Fr.refl _ _).drew.alloc _) (fun _ e => e.elim)
        rcases List.mem_append.1 ht with e | e
        · exact h2 t e
        · simp at e; subst e; exact hu
      · simp only [Array.size_append, List.size_toArray, List.length_map, List.length_cons, List.length_nil, size_zeroCells]
        simp [Value.cells]
        omega
      · rw [Nat.zero_add]
        rw [List.length_append] at hj
        rw [Array.getElem?_append_left (by simp at hj ⊢; omega)]
        by_cases e : j < ts.length
        · rw [Array.getElem?_append_left (by simpa using e), List.getElem_append_left e]
          simp [e]
        · have ej : j = ts.length := by simp at hj; omega
          subst ej
          rw [Array.getElem?_append_right (by simp)]
          simp
set_option maxRecDepth 100000 in
set_option maxHeartbeats 4000000 in
theorem sametx_any (w : World) (v u : Value) (ls : List (List (Int × List UInt8))) (h1 : Lp w v ls) (h2 : Lp w u ls) (hl : ∀ l ∈ ls, l.length ≤ 100000) (hn : ls.length ≤ 1000) : Calls Try.prog 42 #[v, u] w fun e w' => e = .returned (.bool true) ∧ Fr (fun _ => False) w w' := by
  have H1 := hide h1
  have H2 := hide h2
  have HL := hide hl
  obtain ⟨ao, ac, rfl⟩ := h1.shape
  obtain ⟨bo, bc, rfl⟩ := h2.shape
  clear h1 h2 hl
  go_enter Try.func42, Try.ntmps42
  go_wp2_with fail
  go_loopw [5] (fun x W => ∃ i : Nat, i ≤ ls.length ∧ x = .int .i64 (i : Int) ∧ Fr (fun _ => False) w W) (fun x _ => ls.length - (intOf x).toNat)
  case atStart => exact ⟨0, by omega, rfl, Fr.refl _ _⟩
  case round =>
    obtain ⟨i, hi, rfl, hf⟩ := hrel
    have HF := hide hf
    by_cases hlt : i < ls.length
    · obtain ⟨g1, o1, c1, u1, y1, q1, a1, p1⟩ := ((unhide H1).kept0 hf).get i hlt
      obtain ⟨g2, o2, c2, u2, y2, q2, a2, p2⟩ := ((unhide H2).kept0 hf).get i hlt
      simp at y1 y2
      obtain ⟨rfl, rfl⟩ := y1
      obtain ⟨rfl, rfl⟩ := y2
      have HS := hide (fun W (f : Fr (fun _ => False) wr W) => same_any W u1 u2 ls[i] ls[i] (rdp_kept p1.rdp f) (rdp_kept p2.rdp f) (unhide HL _ (List.getElem_mem hlt)))
      have z1 : i < ac := by omega
      have z2 : i < bc := by omega
      have d1 : decide (ls[i] = ls[i]) = true := by simp
      simp only [d1] at HS
      obtain ⟨B1, k1, rfl, -⟩ := p1
      obtain ⟨B2, k2, rfl, -⟩ := p2
      clear hf d1
      generalize (ls[i]).length = n9 at *
      have q0 : (i : Int) < (ls.length : Int) := by omega
      go_wp2_with fail
      go_region_with ((go_at_call 28; refine (unhide HS _ (by first | exact Fr.refl _ _ | exact Fr.ofDrewN _ 1 | exact Fr.ofDrewN _ _)).mono ?_; rintro e w9 ⟨rfl, f9⟩))
      all_goals
        have F9 := hide (((unhide HF).trans (by first | exact Fr.ofDrewN _ 1 | exact Fr.ofDrewN _ _) (fun _ _ e => e)).trans f9 (fun _ _ e => e))
        clear f9
        go_wp2_with fail
        go_roundw
        case rel => exact ⟨i + 1, by omega, by go_num, unhide F9⟩
        case measure => simp [intOf]; omega
    · have q0 : ¬ (i : Int) < (ls.length : Int) := by omega
      clear hf
      go_wp2_with fail
      go_ret
      exact ⟨rfl, unhide HF⟩
end Go.Proofs.Ytgodlfoidjeekaa

namespace Go.Proofs.Ytgodlfoidjeekaa
set_option linter.unusedVariables false
set_option linter.unusedSimpArgs false
open Go.RowKit Go.Lib
set_option linter.unusedVariables false
set_option linter.unusedSimpArgs false

attribute [local go_sem ↓] Go.wp_at_zero Go.wp_at_succ

/-- append onto a row of none: what was there is as it was. -/
theorem app_none {P : Program} (w : World) (t ty e : TypeId) (i : TypeInfo) (z : Value) (size bytes : Nat) (ht : P.underlying t = some (.slice e)) (hi : P.info? e = some i) (hz : i.zero = some z)
    (hsize : i.size = size) (hby : i.bytes = bytes) (hzs : z.cells.size = size) (hsz : 0 < size)
    (g : Nat) (hg : w.heap[g]? = some (.cells #[] e (0, 0)))
    (x : Value) (m : Nat) (news : List Value) (hx : Sr w size x m news) (h1 : ∀ u ∈ news, u.oneCell' = true) (hbytes : m * bytes ≤ 140737488355328) (h63 : m ≤ maxLen) :
    ∃ v' w', (Builtin.append_ #[t, t] ty #[.slice (some ⟨g, 0, none⟩) 0 0, x]).run P w = .ok v' w' ∧ w'.ownsRow 0 e size v' m news ∧ Fr (fun _ => False) w w' ∧ (v'.ownBlock = some g ∨ v'.ownBlock = some w.heap.size) := by
  have hown : w.ownsRow 0 e size (.slice (some ⟨g, 0, none⟩) 0 0) 0 [] := ⟨by simp, .inr ⟨g, 0, #[], rfl, Nat.zero_le _, hg, Nat.le_refl _, Nat.zero_le _, by simp, by simp⟩⟩
  rcases hx with ⟨rfl, rfl, rfl⟩ | ⟨ad, c, rfl, hl, hc⟩
  · exact ⟨_, w, run_append_owned_none w 0 t ty e i size ht hi _ 0 [] hown, hown, Fr.refl _ _, .inl rfl⟩
  · subst hsize
    subst hby
    by_cases hm : m = 0
    · subst hm
      have hn : news = [] := List.eq_nil_of_length_eq_zero (by simpa using hl)
      subst hn
      have hr := run_append_room (P := P) w t ty e i ht hi g 0 0 #[] hg ad 0 c [] hl hc h1 (by omega) (by simp)
      refine ⟨_, _, hr, ⟨by simp, .inr ⟨g, 0, _, rfl, Nat.zero_le _, setRow_heap w g #[] _ e _ hg, by omega, Nat.zero_le _, by simp, by simp⟩⟩, ⟨rfl, rfl, rfl, by simp, fun k _ _ => ?_⟩, .inl rfl⟩
      by_cases e : k = g
      · subst e
        rw [hg, setRow_heap w k #[] _ _ _ hg]
        simp
      · exact setRow_other w g k _ e
    · have hr := run_append_grow (P := P) w t ty e i z ht hi hz ⟨g, 0, none⟩ 0 0 [] (by simp) (fun j u h => by simp at h) ad m c news hl hc (by omega) (by simp only [maxLen] at h63; omega) (growslice_fits (by omega) (by rw [Nat.zero_add]; exact hbytes))
      have hge := grownCap_ge w m 0 e
      have hcm : grownCap w m 0 e ≤ maxLen := grownCap_le_maxLen w m 0 e h63
      simp only [Nat.zero_add] at hr
      refine ⟨_, _, hr, ⟨hl, .inr ⟨w.heap.size, _, _, rfl, Nat.zero_le _, heap_alloc_new w.drew _, hge, hcm, ?_, ?_⟩⟩, (Fr.refl _ _).drew.alloc _, .inr rfl⟩
      · simp only [Array.size_append, List.size_toArray, size_zeroCells, hzs, hl, List.length_nil, Nat.zero_add, ← Nat.add_mul]
        congr 1
        omega
      · simp only [Array.toList_append, List.append_assoc, List.nil_append]
        rw [← hl]
        exact List.take_left
/-- A row that is owned, as what is appended. -/
theorem own_sr {w : World} {e size : Nat} {v : Value} {n : Nat} {xs : List Value} (h : w.ownsRow 0 e size v n xs) : Sr w size v n xs := by
  obtain ⟨h1, h2⟩ := id h
  rcases h2 with ⟨rfl, rfl⟩ | ⟨g, cap, cur, rfl, hb, hg, hnc, hcm, hcs, htake⟩
  · exact .inl ⟨rfl, rfl, List.eq_nil_of_length_eq_zero (by simpa using h1)⟩
  · refine .inr ⟨_, _, rfl, h1, fun j u hu => ?_⟩
    have hj : j < n * size := by have := (List.getElem?_eq_some_iff.1 hu).1; omega
    rw [Addr.add_lit]
    have := World.ownsRow.cellAt h j hj
    rw [Nat.zero_add, this, hu]
/-- A row of none of this kind, new. -/
def Nn (N e : Nat) (v : Value) (w : World) : Prop := ∃ b, v = .slice (some ⟨b, 0, none⟩) 0 0 ∧ N ≤ b ∧ w.heap[b]? = some (.cells #[] e (0, 0))
theorem Nn.kept {N e : Nat} {v : Value} {w1 w2 : World} (h : Nn N e v w1) (f : Fr (fun _ => False) w1 w2) : Nn N e v w2 := by
  obtain ⟨b, e, hN, h⟩ := h
  exact ⟨b, e, hN, (f.block b (lt_of_heap h) id).trans h⟩
/-- A new row. -/
def Nr (N e size : Nat) (xs : List Value) (n : Nat) (v : Value) (w : World) : Prop := ∃ ao c, v = .slice ao n c ∧ w.ownsRow 0 e size v n xs ∧ ∀ b, v.ownBlock = some b → N ≤ b
theorem Nr.kept {N e size n : Nat} {xs : List Value} {v : Value} {w1 w2 : World} (h : Nr N e size xs n v w1) (f : Fr (fun _ => False) w1 w2) : Nr N e size xs n v w2 := by
  obtain ⟨ao, c, e, h, hN⟩ := h
  exact ⟨ao, c, e, owns_kept h f (fun _ _ e => e), hN⟩
theorem app_new {N : Nat} {w : World} {v x : Value} {e t ty size bytes m : Nat} {news : List Value} (inf : TypeInfo) (z : Value) (ht : Try.prog.underlying t = some (.slice e)) (hi : Try.prog.info? e = some inf) (hz : inf.zero = some z)
    (hsize : inf.size = size) (hby : inf.bytes = bytes) (hzs : z.cells.size = size) (hsz : 0 < size) (hv : Nn N e v w) (hx : Sr w size x m news) (h1 : ∀ u ∈ news, u.oneCell' = true) (hbytes : m * bytes ≤ 140737488355328) (h63 : m ≤ maxLen) (hN : N ≤ w.heap.size) :
    ∃ v' w', (Builtin.append_ #[t, t] ty #[v, x]).run Try.prog w = .ok v' w' ∧ Nr N e size news m v' w' ∧ Fr (fun _ => False) w w' := by
  obtain ⟨b, rfl, hb, hg⟩ := hv
  obtain ⟨v', w', hr, ho, f, hn⟩ := app_none (P := Try.prog) w t ty e inf z size bytes ht hi hz hsize hby hzs hsz b hg x m news hx h1 hbytes h63
  obtain ⟨ao, c, rfl⟩ := owns_shape ho
  refine ⟨_, w', hr, ⟨ao, c, rfl, ho, fun k hk => ?_⟩, f⟩
  rcases hn with e | e
  · rw [e] at hk; simp at hk; omega
  · rw [e] at hk; simp at hk; omega
section
variable {ρ : Operand → Value} {o : Oper} {w : World} {x y z : Operand} {ao bo : Option Addr} {n c m k : Nat}
theorem x_bs106 (ho : o.op = .buildSlice 106 0 #[]) : (execOp ρ o).run Try.prog w = .ok (.value (.slice (some ⟨w.heap.size, 0, none⟩) 0 0)) (w.alloc (.cells #[] 9)) := by
  simp [execOp, ho, go_sem]
theorem x_bs107z (ho : o.op = .buildSlice 107 0 #[]) : (execOp ρ o).run Try.prog w = .ok (.value (.slice (some ⟨w.heap.size, 0, none⟩) 0 0)) (w.alloc (.cells #[] 133)) := by
  simp [execOp, ho, go_sem]
theorem x_app106 {a b v : Value} {w2 : World} (ho : o.op = .call { callee := .builtin .append, args := #[x, y], argTypes := #[106, 106] }) (hty : o.type = 106) (hx : ρ x = a) (hy : ρ y = b) (hr : (Builtin.append_ #[106, 106] 106 #[a, b]).run Try.prog w = .ok v w2) : (execOp ρ o).run Try.prog w = .ok (.value v) w2 := by
  simp only [execOp, ho, hty, resolve, invoke, builtin, Sem.run_bind, Sem.run_pure, Result.andThen_ok, List.map_toArray, List.map_cons, List.map_nil, hx, hy, hr]
theorem x_build109 {a : Int} (ho : o.op = .build 109 #[(0, x), (1, y), (2, z)]) (hx : ρ x = .slice ao n c) (hy : ρ y = .slice bo m k) (hz : ρ z = .int .i64 a) : (execOp ρ o).run Try.prog w = .ok (.value (.agg #[.slice ao n c, .slice bo m k, .int .i64 a])) w := by
  simp [execOp, ho, hx, hy, hz, go_sem]
theorem x_box109 {a : Int} (ho : o.op = .box 109 x) (hx : ρ x = .agg #[.slice ao n c, .slice bo m k, .int .i64 a]) : (execOp ρ o).run Try.prog w = .ok (.value (.pointer (some ⟨w.heap.size, 0, none⟩))) (w.alloc (.cells #[.slice ao n c, .slice bo m k, .int .i64 a] 109)) := by
  simp [execOp, ho, hx, go_sem]
end
theorem ld106 : ∀ W a u, World.cell? W a = some u → (Instr.loadAt 106 (.pointer (some a))).run Try.prog W = .ok u W := by intro W a u h; simp [go_sem, h]
theorem stV_one (S : List (List UInt8)) : ∀ u ∈ stV S, u.oneCell' = true := fun u hu => by
  obtain ⟨s, -, rfl⟩ := List.mem_map.1 hu
  rfl
theorem sF_one (Q : List (Nat × List UInt8)) : ∀ u ∈ sF Q, u.oneCell' = true := fun u hu => by
  unfold sF at hu
  obtain ⟨l, hl, h2⟩ := List.mem_flatten.1 hu
  obtain ⟨q, -, rfl⟩ := List.mem_map.1 hl
  simp [sC] at h2
  rcases h2 with rfl | rfl <;> rfl
set_option maxHeartbeats 4000000 in
set_option maxRecDepth 100000 in
theorem gc1 {W : World} {s sc qc : Nat} {so qo : Option Addr} {d : Dv} {u1 u2 u3 u4 u5 u6 u7 u8 u9 u10 u11 u12 u13 u14 u15 u16 u17 u18 u19 u20 : Value} {Q : Exit → Act → World → Prop} (h : DAt W s (.slice so d.S.length sc) (.slice qo d.Q.length qc) d)
    (hQ : ∀ (y2 y3 y4 y5 y6 y7 y8 y9 y10 y11 y12 y13 y14 y15 y16 y17 y18 y19 y20 : Value) (W' : World), (∃ b ao c bo k, y2 = .pointer (some ⟨b, 0, none⟩) ∧ W.heap.size ≤ b ∧ W'.heap[b]? = some (.cells #[.slice ao d.S.length c, .slice bo d.Q.length k, .int .i64 d.fail] 109 (0, 0)) ∧ Nr W.heap.size 9 1 (stV d.S) d.S.length (.slice ao d.S.length c) W' ∧ Nr W.heap.size 133 2 (sF d.Q) d.Q.length (.slice bo d.Q.length k) W') ∧ Fr (fun _ => False) W W' → Q .normal ⟨#[.pointer (some ⟨s, 0, none⟩), u1, y2, y3, y4, y5, y6, y7, y8, y9, y10, y11, y12, y13, y14, y15, y16, y17, y18, y19, y20], []⟩ W') : (rgF Try.f43 1).wp Try.prog Q ⟨#[.pointer (some ⟨s, 0, none⟩), u1, u2, u3, u4, u5, u6, u7, u8, u9, u10, u11, u12, u13, u14, u15, u16, u17, u18, u19, u20], []⟩ W := by
  have HQ := hide hQ
  clear hQ
  have C0 := hide (by have := cell_of_heap h.heap 0; simp at this; exact this : W.cell? ⟨s, 0, none⟩ = some (.slice so d.S.length sc))
  have C1 := hide (by have := cell_of_heap h.heap 1; simp at this; exact this : W.cell? ⟨s, 1, none⟩ = some (.slice qo d.Q.length qc))
  have C2 := hide (by have := cell_of_heap h.heap 2; simp at this; exact this : W.cell? ⟨s, 2, none⟩ = some (.int .i64 d.fail))
  have HS := hide h.strs
  have HQU := hide h.queue
  have SL := hide h.ok.len
  have QL := hide h.ok.few
  clear h
  conv => arg 2; whnf
  refine wp_nameK ?_
  intro a0 hA
  have h0 : a0.tmps.getD 0 undef = .pointer (some ⟨s, 0, none⟩) := by rw [hA]; rfl
  have hsz : a0.tmps.size = 21 := by rw [hA]; rfl
  have hdf : a0.defers = [] := by rw [hA]
  have HA0 := hide hA
  clear hA
  refine wp_region_kinds (fun _ => False) (by kernel_rfl) (by kernel_rfl) (by decide +kernel) (by rw [hsz]; decide +kernel) [.pr (fun v w => Nn W.heap.size 9 v w) (fun v w1 w2 h f => h.kept f), .eq (.pointer (some ⟨s, 0, none⟩)), .eq (.pointer (some ⟨s, 0, none⟩)), .eq (.pointer (some ⟨s, 0, none⟩)), .eq (.slice so d.S.length sc), .pr (fun v w => Nr W.heap.size 9 1 (stV d.S) d.S.length v w) (fun v w1 w2 h f => h.kept f), .pr (fun v w => Nn W.heap.size 133 v w) (fun v w1 w2 h f => h.kept f), .eq (.pointer (some ⟨s, 0, none⟩)), .eq (.pointer (some ⟨s, 0, none⟩)), .eq (.pointer (some ⟨s, 1, none⟩)), .eq (.slice qo d.Q.length qc), .pr (fun v w => Nr W.heap.size 133 2 (sF d.Q) d.Q.length v w) (fun v w1 w2 h f => h.kept f), .eq (.pointer (some ⟨s, 0, none⟩)), .eq (.pointer (some ⟨s, 0, none⟩)), .eq (.pointer (some ⟨s, 2, none⟩)), .eq (.int .i64 d.fail), .pr (fun v w => ∃ ao c bo k, v = .agg #[.slice ao d.S.length c, .slice bo d.Q.length k, .int .i64 d.fail] ∧ Nr W.heap.size 9 1 (stV d.S) d.S.length (.slice ao d.S.length c) w ∧ Nr W.heap.size 133 2 (sF d.Q) d.Q.length (.slice bo d.Q.length k) w) (fun v w1 w2 h f => by obtain ⟨ao, c, bo, k, e, h1, h2⟩ := h; exact ⟨ao, c, bo, k, e, h1.kept f, h2.kept f⟩), .pr (fun v w => ∃ b ao c bo k, v = .pointer (some ⟨b, 0, none⟩) ∧ W.heap.size ≤ b ∧ w.heap[b]? = some (.cells #[.slice ao d.S.length c, .slice bo d.Q.length k, .int .i64 d.fail] 109 (0, 0)) ∧ Nr W.heap.size 9 1 (stV d.S) d.S.length (.slice ao d.S.length c) w ∧ Nr W.heap.size 133 2 (sF d.Q) d.Q.length (.slice bo d.Q.length k) w) (fun v w1 w2 h f => by obtain ⟨b, ao, c, bo, k, e, hN, h0, h1, h2⟩ := h; exact ⟨b, ao, c, bo, k, e, hN, (f.block b (lt_of_heap h0) id).trans h0, h1.kept f, h2.kept f⟩), .pr (fun v w => ∃ b ao c bo k, v = .pointer (some ⟨b, 0, none⟩) ∧ W.heap.size ≤ b ∧ w.heap[b]? = some (.cells #[.slice ao d.S.length c, .slice bo d.Q.length k, .int .i64 d.fail] 109 (0, 0)) ∧ Nr W.heap.size 9 1 (stV d.S) d.S.length (.slice ao d.S.length c) w ∧ Nr W.heap.size 133 2 (sF d.Q) d.Q.length (.slice bo d.Q.length k) w) (fun v w1 w2 h f => by obtain ⟨b, ao, c, bo, k, e, hN, h0, h1, h2⟩ := h; exact ⟨b, ao, c, bo, k, e, hN, (f.block b (lt_of_heap h0) id).trans h0, h1.kept f, h2.kept f⟩)] [] (by decide) (by decide) (chain_paths _ [] (by kernel_rfl)) (fun _ _ => True) trivial ?steps ?done
  case steps =>
    refine ⟨?_, ?_⟩
    · intro a' w' k' hb hf hs hc hq hg hd
      have hs9 : Fr (fun _ => False) W w' := hf; exact ⟨wantedN rfl, k_new _ _ (by decide) hs ((Fr.refl _ _).alloc _) (x_bs106 rfl) ⟨_, rfl, hs9.size, heap_alloc_new w' _⟩⟩
    refine ⟨?_, ?_⟩
    · intro a' w' k' hb hf hs hc hq hg hd
      exact ⟨wantedN rfl, k_val (.pointer (some ⟨s, 0, none⟩)) (by decide) hs (x_move rfl ((hb.old 0 (by decide +kernel)).trans h0)) rfl⟩
    refine ⟨?_, ?_⟩
    · intro a' w' k' hb hf hs hc hq hg hd
      exact ⟨wantedN rfl, k_val (.pointer (some ⟨s, 0, none⟩)) (by decide) hs (x_nilCheck rfl (hd 1 (by kernel_rfl) 4 rfl)) rfl⟩
    refine ⟨?_, ?_⟩
    · intro a' w' k' hb hf hs hc hq hg hd
      exact ⟨wantedN rfl, k_val (.pointer (some ⟨s, 0, none⟩)) (by decide) hs (x_field (of := 0) (off := 0) (fa109_0 s 0) rfl (hd 2 (by kernel_rfl) 5 rfl)) rfl⟩
    refine ⟨?_, ?_⟩
    · intro a' w' k' hb hf hs hc hq hg hd
      exact ⟨wantedN rfl, k_val (.slice so d.S.length sc) (by decide) hs (x_load1 ld106 rfl (hd 3 (by kernel_rfl) 6 rfl) ((Fr.cell hf (a := ⟨s, 0, none⟩) (World.block_lt_of_cell? W _ (unhide C0)) id).trans (unhide C0))) rfl⟩
    refine ⟨?_, ?_⟩
    · intro a' w' k' hb hf hs hc hq hg hd
      have hs9 : Fr (fun _ => False) W w' := hf
      obtain ⟨inf, zv, hi0, hz0, hz1, hz2, hz3⟩ := info_zero Try.info9 Try.zero9
      have hx9 := (hd 0 (by kernel_rfl) 3 rfl)
      have hsr := own_sr (owns_kept (unhide HS) hs9 (fun _ _ e => e))
      obtain ⟨v2, w2, hr2, ho2, f2⟩ := app_new (t := 106) (ty := 106) inf zv Try.u106 hi0 hz0 hz1 hz2 (by rw [← Array.length_toList, hz3]; rfl) (by decide) hx9 hsr (stV_one d.S) (by have := unhide SL; omega) (by have := unhide SL; simp only [maxLen]; omega) hs9.size
      exact ⟨wantedN rfl, k_new _ w2 (by decide) hs f2 (x_app106 rfl rfl rfl (hd 4 (by kernel_rfl) 7 rfl) hr2) ho2⟩
    refine ⟨?_, ?_⟩
    · intro a' w' k' hb hf hs hc hq hg hd
      have hs9 : Fr (fun _ => False) W w' := hf; exact ⟨wantedN rfl, k_new _ _ (by decide) hs ((Fr.refl _ _).alloc _) (x_bs107z rfl) ⟨_, rfl, hs9.size, heap_alloc_new w' _⟩⟩
    refine ⟨?_, ?_⟩
    · intro a' w' k' hb hf hs hc hq hg hd
      exact ⟨wantedN rfl, k_val (.pointer (some ⟨s, 0, none⟩)) (by decide) hs (x_move rfl ((hb.old 0 (by decide +kernel)).trans h0)) rfl⟩
    refine ⟨?_, ?_⟩
    · intro a' w' k' hb hf hs hc hq hg hd
      exact ⟨wantedN rfl, k_val (.pointer (some ⟨s, 0, none⟩)) (by decide) hs (x_nilCheck rfl (hd 7 (by kernel_rfl) 10 rfl)) rfl⟩
    refine ⟨?_, ?_⟩
    · intro a' w' k' hb hf hs hc hq hg hd
      exact ⟨wantedN rfl, k_val (.pointer (some ⟨s, 1, none⟩)) (by decide) hs (x_field (of := 0) (off := 1) (fa109_1 s 0) rfl (hd 8 (by kernel_rfl) 11 rfl)) rfl⟩
    refine ⟨?_, ?_⟩
    · intro a' w' k' hb hf hs hc hq hg hd
      exact ⟨wantedN rfl, k_val (.slice qo d.Q.length qc) (by decide) hs (x_load1 ld107 rfl (hd 9 (by kernel_rfl) 12 rfl) ((Fr.cell hf (a := ⟨s, 1, none⟩) (World.block_lt_of_cell? W _ (unhide C1)) id).trans (unhide C1))) rfl⟩
    refine ⟨?_, ?_⟩
    · intro a' w' k' hb hf hs hc hq hg hd
      have hs9 : Fr (fun _ => False) W w' := hf
      obtain ⟨inf, zv, hi0, hz0, hz1, hz2, hz3⟩ := info_zero Try.info133 Try.zero133
      have hx9 := (hd 6 (by kernel_rfl) 9 rfl)
      have hsr := own_sr (owns_kept (unhide HQU) hs9 (fun _ _ e => e))
      obtain ⟨v2, w2, hr2, ho2, f2⟩ := app_new (t := 107) (ty := 107) inf zv Try.u107 hi0 hz0 hz1 hz2 (by rw [← Array.length_toList, hz3]; rfl) (by decide) hx9 hsr (sF_one d.Q) (by have := unhide QL; omega) (by have := unhide QL; simp only [maxLen]; omega) hs9.size
      exact ⟨wantedN rfl, k_new _ w2 (by decide) hs f2 (x_app107 rfl rfl rfl (hd 10 (by kernel_rfl) 13 rfl) hr2) ho2⟩
    refine ⟨?_, ?_⟩
    · intro a' w' k' hb hf hs hc hq hg hd
      exact ⟨wantedN rfl, k_val (.pointer (some ⟨s, 0, none⟩)) (by decide) hs (x_move rfl ((hb.old 0 (by decide +kernel)).trans h0)) rfl⟩
    refine ⟨?_, ?_⟩
    · intro a' w' k' hb hf hs hc hq hg hd
      exact ⟨wantedN rfl, k_val (.pointer (some ⟨s, 0, none⟩)) (by decide) hs (x_nilCheck rfl (hd 12 (by kernel_rfl) 15 rfl)) rfl⟩
    refine ⟨?_, ?_⟩
    · intro a' w' k' hb hf hs hc hq hg hd
      exact ⟨wantedN rfl, k_val (.pointer (some ⟨s, 2, none⟩)) (by decide) hs (x_field (of := 0) (off := 2) (fa109_2 s 0) rfl (hd 13 (by kernel_rfl) 16 rfl)) rfl⟩
    refine ⟨?_, ?_⟩
    · intro a' w' k' hb hf hs hc hq hg hd
      exact ⟨wantedN rfl, k_val (.int .i64 d.fail) (by decide) hs (x_load1 ld3 rfl (hd 14 (by kernel_rfl) 17 rfl) ((Fr.cell hf (a := ⟨s, 2, none⟩) (World.block_lt_of_cell? W _ (unhide C2)) id).trans (unhide C2))) rfl⟩
    refine ⟨?_, ?_⟩
    · intro a' w' k' hb hf hs hc hq hg hd
      have g1 := (hd 5 (by kernel_rfl) 8 rfl)
      have g2 := (hd 11 (by kernel_rfl) 14 rfl)
      have g1' := g1
      have g2' := g2
      obtain ⟨ao, c, e1, -⟩ := g1'
      obtain ⟨bo, k, e2, -⟩ := g2'
      rw [e1] at g1
      rw [e2] at g2
      exact ⟨wantedN rfl, k_val _ (by decide) hs (x_build109 rfl e1 e2 (hd 15 (by kernel_rfl) 18 rfl)) ⟨_, _, _, _, rfl, g1, g2⟩⟩
    refine ⟨?_, ?_⟩
    · intro a' w' k' hb hf hs hc hq hg hd
      obtain ⟨ao, c, bo, k, e1, g1, g2⟩ := (hd 16 (by kernel_rfl) 19 rfl)
      have hs9 : Fr (fun _ => False) W w' := hf
      exact ⟨wantedN rfl, k_new _ _ (by decide) hs ((Fr.refl _ _).alloc _) (x_box109 rfl e1) ⟨_, _, _, _, _, rfl, hs9.size, heap_alloc_new w' _, g1.kept ((Fr.refl _ _).alloc _), g2.kept ((Fr.refl _ _).alloc _)⟩⟩
    refine ⟨?_, ?_⟩
    · intro a' w' k' hb hf hs hc hq hg hd
      have hh := (hd 17 (by kernel_rfl) 20 rfl); exact ⟨wantedN rfl, k_val _ (by decide) hs (x_assign rfl rfl) hh⟩
    exact trivial
  case done =>
    intro a' w' hb hf hs hall
    have hslots : Slots a' 0 [.pointer (some ⟨s, 0, none⟩), u1, a'.tmps.getD 2 undef, a'.tmps.getD 3 undef, a'.tmps.getD 4 undef, a'.tmps.getD 5 undef, a'.tmps.getD 6 undef, a'.tmps.getD 7 undef, a'.tmps.getD 8 undef, a'.tmps.getD 9 undef, a'.tmps.getD 10 undef, a'.tmps.getD 11 undef, a'.tmps.getD 12 undef, a'.tmps.getD 13 undef, a'.tmps.getD 14 undef, a'.tmps.getD 15 undef, a'.tmps.getD 16 undef, a'.tmps.getD 17 undef, a'.tmps.getD 18 undef, a'.tmps.getD 19 undef, a'.tmps.getD 20 undef] := ⟨(hb.old 0 (by decide +kernel)).trans (by rw [unhide HA0]; rfl), (hb.old 1 (by decide +kernel)).trans (by rw [unhide HA0]; rfl), rfl, rfl, rfl, rfl, rfl, rfl, rfl, rfl, rfl, rfl, rfl, rfl, rfl, rfl, rfl, rfl, rfl, rfl, rfl, trivial⟩
    have hfr := frame_eq (a := a') (by rw [hb.size, hsz]; rfl) (by rw [hb.defers, hdf]) hslots
    rw [hfr]
    exact unhide HQ (a'.tmps.getD 2 undef) (a'.tmps.getD 3 undef) (a'.tmps.getD 4 undef) (a'.tmps.getD 5 undef) (a'.tmps.getD 6 undef) (a'.tmps.getD 7 undef) (a'.tmps.getD 8 undef) (a'.tmps.getD 9 undef) (a'.tmps.getD 10 undef) (a'.tmps.getD 11 undef) (a'.tmps.getD 12 undef) (a'.tmps.getD 13 undef) (a'.tmps.getD 14 undef) (a'.tmps.getD 15 undef) (a'.tmps.getD 16 undef) (a'.tmps.getD 17 undef) (a'.tmps.getD 18 undef) (a'.tmps.getD 19 undef) (a'.tmps.getD 20 undef) w' ⟨hall 18 (by decide) 2 rfl, hf⟩
set_option maxRecDepth 100000 in
theorem copy_any (w : World) (s : Nat) (sv qv : Value) (d : Dv) (h : DAt w s sv qv d) : Calls Try.prog 43 #[.pointer (some ⟨s, 0, none⟩)] w fun e w' => ∃ b v1 v2, e = .returned (.pointer (some ⟨b, 0, none⟩)) ∧ DAt w' b v1 v2 d ∧ (∀ k, DB b v1 v2 k → w.heap.size ≤ k) ∧ Fr (fun _ => False) w w' := by
  obtain ⟨so, sc, rfl⟩ := owns_shape h.strs
  obtain ⟨qo, qc, rfl⟩ := owns_shape h.queue
  have H := hide h
  have OK := hide h.ok
  clear h
  go_enter Try.func43, Try.ntmps43
  go_upto_region 1 with fail
  refine gc1 (unhide H) ?_
  intros
  rename_i W' hW
  obtain ⟨⟨b, ao, c, bo, k, rfl, hN, h0, ⟨_, _, -, g1, g1'⟩, ⟨_, _, -, g2, g2'⟩⟩, f⟩ := hW
  have H0 := hide h0
  have G1 := hide g1
  have G2 := hide g2
  have F := hide f
  have B9 := hide (show ∀ k9, DB b (.slice ao d.S.length c) (.slice bo d.Q.length k) k9 → w.heap.size ≤ k9 from fun k9 e => by
    rcases e with rfl | e | e
    · exact hN
    · exact g1' _ e
    · exact g2' _ e)
  clear h0 g1 g1' g2 g2' f
  go_wp2_with fail
  go_ret
  exact ⟨b, _, _, rfl, ⟨unhide H0, unhide G1, unhide G2, unhide OK⟩, unhide B9, unhide F⟩
end Go.Proofs.Ytgodlfoidjeekaa

namespace Go.Proofs.Ytgodlfoidjeekaa
set_option linter.unusedVariables false
set_option linter.unusedSimpArgs false
open Go.RowKit
set_option linter.unusedVariables false
set_option linter.unusedSimpArgs false

attribute [local go_sem ↓] Go.wp_at_zero Go.wp_at_succ

theorem rdvK {w w' : World} {v : Value} {xs : List Value} {S : Nat → Prop} (h : RdV w v xs) (f : Fr S w w') (hs : xs ≠ [] → ∀ b, v.ownBlock = some b → ¬ S b) : RdV w' v xs := by
  by_cases e : xs = []
  · subst e
    rcases h with h | ⟨ad, cap, rfl, h1, h2, h3⟩
    · exact .inl h
    · exact .inr ⟨ad, cap, rfl, h1, h2, fun j hj => absurd hj (Nat.not_lt_zero j)⟩
  · exact h.kept f (hs e)
section
variable (w : World) (s : Nat) (sv qv : Value) (d : Dv)
set_option maxHeartbeats 4000000 in
set_option maxRecDepth 100000 in
theorem scrash2 (kv : Value) (K : List Int) (hk : RdV w kv (K.map (Value.int .i64))) (hap : K ≠ [] → ∀ b, kv.ownBlock = some b → ¬ DB s sv qv b) (h : DAt w s sv qv d) : Calls Try.prog 40 #[.pointer (some ⟨s, 0, none⟩), kv] w fun e w' => e = .returned (.tuple #[]) ∧ DSt w w' s sv qv (crD d K) := by
  obtain ⟨qo, qc, rfl⟩ := owns_shape h.queue
  obtain ⟨so, sc, rfl⟩ := owns_shape h.strs
  obtain ⟨ko, kc, rfl⟩ := hk.shape
  have hKl : K.length ≤ maxLen := by have := hk.len; rwa [List.length_map] at this
  unfold maxLen at hKl
  have HK := hide hk
  rw [List.length_map] at HK hap ⊢
  have HAP := hide hap
  have hok := hide h.ok
  have H := hide h
  have hfew := h.ok.few
  clear h hk hap
  go_enter Try.func40, Try.ntmps40
  go_wp2_with fail
  go_loopw [4] (fun x w' => ∃ i : Nat, i ≤ d.Q.length ∧ x = .int .i64 (i : Int) ∧ DAt w' s (.slice so d.S.length sc) (.slice qo d.Q.length qc) (crI d K i) ∧ Fr (DB s (.slice so d.S.length sc) (.slice qo d.Q.length qc)) w w') (fun x _ => d.Q.length - (intOf x).toNat)
  case atStart => exact ⟨0, by omega, rfl, unhide H, Fr.refl _ _⟩
  case round =>
    obtain ⟨i, hi, rfl, hKi, hf⟩ := hrel
    obtain ⟨hcQ, hcS, hcF⟩ := crI_all d K i
    have r0 := cell_of_heap hKi.heap 0
    have r1 := cell_of_heap hKi.heap 1
    have z1 := frozen_of_heap hKi.heap 1
    simp at r0 r1
    by_cases hlt : i < d.Q.length
    · have HKr := hide (rdvK (unhide HK) hf (fun e => unhide HAP (fun e2 => e (by rw [e2]; rfl))))
      obtain ⟨g, cap, hv, hcap, -, y1, y2⟩ := hKi.wr i (by rw [hcQ]; exact hlt)
      simp only [hcQ] at hv hcap y1 y2
      simp only [Value.slice.injEq, true_and] at hv
      obtain ⟨rfl, rfl⟩ := hv
      have hql := (unhide hok).q _ (List.getElem_mem hlt)
      have hgd : d.Q.getD i (0, []) = d.Q[i] := by simp [List.getD, hlt]
      have hic : i < qc := by omega
      have HKI := hide hKi
      have HF := hide hf
      have HY1 := hide y1
      have HY2 := hide y2
      clear hKi hf y1 y2 H HK hcap
      go_wp2_with fail
      go_loopw [5, 6] (fun b y w' => ∃ k : Nat, k ≤ K.length ∧ y = .int .i64 (k : Int) ∧ b = .bool (decide ((i : Int) ∈ K.take k)) ∧ wr = w') (fun _ y _ => K.length - (intOf y).toNat)
      case atStart => exact ⟨0, by omega, rfl, by simp, rfl⟩
      case round =>
        obtain ⟨k, hk, rfl, rfl, rfl⟩ := hrel
        by_cases hlk : k < K.length
        · obtain ⟨kb, kof, rfl, -, -, -, hck⟩ := (unhide HKr).lits (by rw [List.length_map]; omega)
          have y3 := hck k (by rw [List.length_map]; exact hlk)
          rw [List.getElem_map] at y3
          have hst : decide ((i : Int) ∈ K.take (k + 1)) = (decide ((i : Int) ∈ K.take k) || (K[k] == (i : Int))) := by
            rw [List.take_succ_eq_append_getElem hlk, Bool.eq_iff_iff]
            simp only [decide_eq_true_eq, List.mem_append, List.mem_singleton, Bool.or_eq_true, beq_iff_eq]
            constructor
            · rintro (e | e)
              · exact .inl e
              · exact .inr e.symm
            · rintro (e | e)
              · exact .inl e
              · exact .inr e.symm
          have HST := hide hst
          have hkc : k < kc := by
            rcases (unhide HKr) with ⟨e, -⟩ | ⟨a, c, e, hc, -⟩
            · simp at e
            · simp only [Value.slice.injEq] at e
              rw [List.length_map] at hc
              omega
          generalize K[k] = z at *
          generalize decide ((i : Int) ∈ K.take k) = b0 at *
          clear hck hst
          cases b0
          · go_wp2_with fail
            go_roundw
            case rel => exact ⟨k + 1, by omega, by go_num, by rw [unhide HST]; rfl, trivial⟩
            case measure => simp [intOf]; omega
          · go_wp2_with fail
            go_roundw
            case rel => exact ⟨k + 1, by omega, by go_num, by rw [unhide HST]; rfl, trivial⟩
            case measure => simp [intOf]; omega
        · obtain rfl : k = K.length := by omega
          rw [List.take_of_length_le (Nat.le_refl _)]
          by_cases hin : (i : Int) ∈ K
          · rw [decide_eq_true hin]
            have hst : crI d K (i + 1) = { crI d K i with S := (crI d K i).S.set (d.Q[i]).1 (d.Q[i]).2 } := by
              show (if (i : Int) ∈ K then _ else _) = _
              rw [if_pos hin, hgd]
            obtain ⟨g2, cap2, hv2, hcap2, ⟨so2, ys⟩, zs, -, -⟩ := (unhide HKI).putS (d.Q[i]).1 (d.Q[i]).2 (by rw [hcS]; exact hql.1) hql.2
            rw [hcS] at hv2
            simp only [Value.slice.injEq, true_and] at hv2
            obtain ⟨rfl, rfl⟩ := hv2
            have HP : Hid (∀ n, DAt ((wr.drewN n).setCell ⟨g2, (d.Q[i]).1, none⟩ (.string (str (d.Q[i]).2))) s (.slice (some ⟨g2, 0, none⟩) d.S.length sc) (.slice (some ⟨g, 0, none⟩) d.Q.length qc) (crI d K (i + 1)) ∧ Fr (DB s (.slice (some ⟨g2, 0, none⟩) d.S.length sc) (.slice (some ⟨g, 0, none⟩) d.Q.length qc)) w ((wr.drewN n).setCell ⟨g2, (d.Q[i]).1, none⟩ (.string (str (d.Q[i]).2)))) := hide (fun n => by
              obtain ⟨g3, cap3, e3, -, -, -, h3, f3⟩ := ((unhide HKI).kept0 (Fr.ofDrewN wr n)).putS (d.Q[i]).1 (d.Q[i]).2 (by rw [hcS]; exact hql.1) hql.2
              simp only [Value.slice.injEq, Option.some.injEq, Addr.mk.injEq] at e3
              obtain ⟨⟨rfl, -, -⟩, -, -⟩ := e3
              rw [hst]
              exact ⟨h3, (unhide HF).trans ((Fr.ofDrewN (S := fun _ => False) wr n |>.mono (fun _ _ e => e.elim)).trans f3 (fun _ _ e => e)) (fun _ _ e => e)⟩)
            have y1 := unhide HY1
            have y2 := unhide HY2
            have hxl := hql.1
            generalize str (d.Q[i]).2 = ss at *
            generalize (d.Q[i]).1 = q1 at *
            clear HKI HF hql hgd HKr hst hin HY1 HY2 hcQ hcS hcF
            go_wp2_with fail
            refine wp_region_quietTail 20 (by kernel_rfl) (by kernel_rfl) ?_
            simp only [List.take_succ_cons, List.take_zero]
            repeat (go_big_quiet_step (fail))
            refine wpQuiet_nil ?_
            intro _ hw'
            obtain ⟨nq, hw''⟩ := hw'
            subst hw''
            simp only [List.drop_succ_cons, List.drop_zero]
            go_wp2_with fail
            go_roundw
            case rel => exact ⟨i + 1, by omega, by go_num, (unhide HP nq).1, (unhide HP nq).2⟩
            case measure => simp [intOf]; omega
          · rw [decide_eq_false hin]
            have hst : crI d K (i + 1) = crI d K i := by
              show (if (i : Int) ∈ K then _ else _) = _
              rw [if_neg hin]
            have HST := hide hst
            clear hst hin hql hgd HKr HY1 HY2
            go_wp2_with fail
            go_roundw
            case rel => exact ⟨i + 1, by omega, by go_num, by rw [unhide HST]; exact unhide HKI, unhide HF⟩
            case measure => simp [intOf]; omega
    · have hie : i = d.Q.length := by omega
      subst hie
      have HE := hide (DSt.after hf hKi.empty)
      clear hKi hf H
      go_wp2_with fail
      go_end0
      exact ⟨rfl, unhide HE⟩
end
theorem dw_crash {X : Nat → Prop} {w0 w : World} {j s : Nat} {J : Jn} {D : Dv} (h : JS X w0 w j s J D) (kv : Value) (K : List Int) (hk : RdV w kv (K.map (Value.int .i64))) (hap : K ≠ [] → ∀ b, kv.ownBlock = some b → ¬ X b ∧ b < w0.heap.size) : Calls Try.prog 40 #[.pointer (some ⟨s, 0, none⟩), kv] w fun e w' => e = .returned (.tuple #[]) ∧ DW X w0 w' s (crD D K) ∧ Fr (Zs X w0 w) w w' := by
  obtain ⟨⟨mv, sv, qv, h0, h1, h2⟩, h3, h4⟩ := h
  refine (scrash2 w s sv qv D kv K hk (fun e b hb z => ?_) h1).mono ?_
  · obtain ⟨a1, a2⟩ := hap e b hb
    rcases h2 b (.inr z) with x | x
    · exact a1 x
    · omega
  · rintro e w' ⟨rfl, hd⟩
    exact ⟨rfl, dw_dev h1 (fun b e => h2 b (.inr e)) h4 hd⟩
theorem dw_copy {X : Nat → Prop} {w0 w : World} {j s : Nat} {J : Jn} {D : Dv} (h : JS X w0 w j s J D) : Calls Try.prog 43 #[.pointer (some ⟨s, 0, none⟩)] w fun e w' => ∃ b, e = .returned (.pointer (some ⟨b, 0, none⟩)) ∧ DW X00 w w' b D ∧ Fr (fun _ => False) w w' := by
  obtain ⟨⟨mv, sv, qv, h0, h1, h2⟩, h3, h4⟩ := h
  refine (copy_any w s sv qv D h1).mono ?_
  rintro e w' ⟨b, v1, v2, rfl, a1, a2, f⟩
  exact ⟨b, rfl, ⟨⟨v1, v2, a1, fun k hk => .inr (a2 k hk)⟩, f.size⟩, f⟩
theorem lg_few2 {l : List Ac} (h : lgB l = false) : l.length ≤ 30 ∧ ∀ j (hj : j < l.length), (l[j]).tx.length ≤ 300 := by
  unfold lgB at h
  simp only [Bool.or_eq_false_iff, decide_eq_false_iff_not] at h
  obtain ⟨⟨h1, h2⟩, -⟩ := h
  refine ⟨by omega, fun j hj => ?_⟩
  have hm : min l.length 31 = l.length := by omega
  rw [hm] at h2
  have h3 : ∀ k, j + 1 + k ≤ l.length → lgN l (j + 1) ≤ lgN l (j + 1 + k) := by
    intro k
    induction k with
    | zero => intro _; exact Nat.le_refl _
    | succ k ih =>
      intro hk
      have := ih (by omega)
      have := lgN_succ l (j + 1 + k) (by omega)
      rw [show j + 1 + (k + 1) = j + 1 + k + 1 by omega]
      omega
  have h4 := h3 (l.length - (j + 1)) (by omega)
  rw [show j + 1 + (l.length - (j + 1)) = l.length by omega] at h4
  have h5 := lgN_succ l j hj
  omega
theorem X00_fr2 {w a b : World} (f : Fr (Zs X00 w a) a b) (hw : Fr (fun _ => False) w a) : Fr (fun _ => False) w b := hw.trans f (fun k hk e => by
  rcases e.2 with e | e
  · exact e.elim
  · omega)
theorem js_other2 {X : Nat → Prop} {w0 w w' : World} {j s : Nat} {J : Jn} {D : Dv} {S : Nat → Prop} (h : JS X w0 w j s J D) (f : Fr S w w') (hS : ∀ k, S k → knd w k = 28) : JS X w0 w' j s J D := by
  obtain ⟨⟨mv, sv, qv, hJ, hD, hB⟩, ok, sz⟩ := h
  exact ⟨⟨mv, sv, qv, hJ.kept f (fun k e z => by have a := hJ.knds e; have b := hS k z; unfold KJ at a; omega), hD.kept f (fun k e z => by have a := hD.knds e; have b := hS k z; unfold KD at a; omega), hB⟩, ok, Nat.le_trans sz f.size⟩
theorem x_app79 {ρ : Operand → Value} {o : Oper} {w : World} {x y : Operand} {a b v : Value} {w2 : World} (ho : o.op = .call { callee := .builtin .append, args := #[x, y], argTypes := #[79, 79] }) (hty : o.type = 79) (hx : ρ x = a) (hy : ρ y = b) (hr : (Builtin.append_ #[79, 79] 79 #[a, b]).run Try.prog w = .ok v w2) : (execOp ρ o).run Try.prog w = .ok (.value v) w2 := by
  simp only [execOp, ho, hty, resolve, invoke, builtin, Sem.run_bind, Sem.run_pure, Result.andThen_ok, List.map_toArray, List.map_cons, List.map_nil, hx, hy, hr]
theorem Cr0.gt {c i : Nat} {J : Jn} {D : Dv} {T L : List Tr} {y : Nat} (h : Cr0 c i J D T L y) : (∀ t ∈ L, gtB t.x = true) ∧ ∀ p ∈ L.map (fun t => gtL t.x), p.length ≤ 100000 := by
  have h1 : ∀ t ∈ L, gtB t.x = true := fun t ht => (h.bk.ok t (h.sub t ht)).tx
  refine ⟨h1, fun p hp => ?_⟩
  obtain ⟨t, ht, rfl⟩ := List.mem_map.1 hp
  rw [gtL_length]
  have := (gt_of (h1 t ht)).1
  omega
end Go.Proofs.Ytgodlfoidjeekaa
