/-
  SHA-256 of one piece, plainly: words, their schedule, the rounds.
-/
import Derived.Test.YtlicmlioilkfdaaDoorWd
namespace Go.Proofs.YtlicmlioilkfdaaDoor
open Go.RowKit
set_option linter.unusedVariables false
set_option linter.unusedSimpArgs false

/-- A byte as a word. -/
def B8 (b : UInt8) : Wd := BitVec.ofNat 32 b.toNat

theorem N_B8 (b : UInt8) : N (B8 b) = ((b.toNat : Nat) : Int) := by
  have := b.toNat_lt
  unfold N B8
  rw [BitVec.toNat_ofNat, Nat.mod_eq_of_lt (by omega)]

/-- Four bytes as a word, the most significant first. -/
def wd4 (a b c d : UInt8) : Wd := B8 a <<< 24 ||| B8 b <<< 16 ||| B8 c <<< 8 ||| B8 d

/-- The word at place t. -/
def wdAt (p : List UInt8) (t : Nat) : Wd := wd4 (p.getD (4 * t) 0) (p.getD (4 * t + 1) 0) (p.getD (4 * t + 2) 0) (p.getD (4 * t + 3) 0)

/-- The word that comes behind these. -/
def nxt (l : List Wd) : Wd :=
  l.getD (l.length - 16) 0 + (rot (l.getD (l.length - 15) 0) 7 ^^^ rot (l.getD (l.length - 15) 0) 18 ^^^ l.getD (l.length - 15) 0 >>> 3) + l.getD (l.length - 7) 0 +
    (rot (l.getD (l.length - 2) 0) 17 ^^^ rot (l.getD (l.length - 2) 0) 19 ^^^ l.getD (l.length - 2) 0 >>> 10)

/-- The first 16 + n words of the schedule. -/
def sch (p : List UInt8) : Nat → List Wd
  | 0 => (List.range 16).map (wdAt p)
  | n + 1 => sch p n ++ [nxt (sch p n)]

theorem sch_length (p : List UInt8) (n : Nat) : (sch p n).length = 16 + n := by
  induction n with
  | zero => simp [sch]
  | succ n ih => simp [sch, ih]; omega

/-- The state: eight words. -/
structure St where
  a : Wd
  b : Wd
  c : Wd
  d : Wd
  e : Wd
  f : Wd
  g : Wd
  h : Wd
  deriving DecidableEq

def St.l (s : St) : List Wd := [s.a, s.b, s.c, s.d, s.e, s.f, s.g, s.h]

/-- x and y of one round. -/
def xs (s : St) (k w : Wd) : Wd := s.h + (rot s.e 6 ^^^ rot s.e 11 ^^^ rot s.e 25) + (s.e &&& s.f ^^^ ~~~s.e &&& s.g) + k + w
def ys (s : St) : Wd := (rot s.a 2 ^^^ rot s.a 13 ^^^ rot s.a 22) + (s.a &&& s.b ^^^ s.a &&& s.c ^^^ s.b &&& s.c)

/-- One round. -/
def rnd (s : St) (k w : Wd) : St := ⟨xs s k w + ys s, s.a, s.b, s.c, s.d + xs s k w, s.e, s.f, s.g⟩

/-- The k(t). -/
def KL : List Wd := [1116352408, 1899447441, 3049323471, 3921009573, 961987163, 1508970993, 2453635748, 2870763221, 3624381080, 310598401, 607225278, 1426881987, 1925078388, 2162078206, 2614888103, 3248222580, 3835390401, 4022224774, 264347078, 604807628, 770255983, 1249150122, 1555081692, 1996064986, 2554220882, 2821834349, 2952996808, 3210313671, 3336571891, 3584528711, 113926993, 338241895, 666307205, 773529912, 1294757372, 1396182291, 1695183700, 1986661051, 2177026350, 2456956037, 2730485921, 2820302411, 3259730800, 3345764771, 3516065817, 3600352804, 4094571909, 275423344, 430227734, 506948616, 659060556, 883997877, 958139571, 1322822218, 1537002063, 1747873779, 1955562222, 2024104815, 2227730452, 2361852424, 2428436474, 2756734187, 3204031479, 3329325298]

theorem KL_length : KL.length = 64 := by decide +kernel

/-- n rounds. -/
def rn (W : List Wd) (s : St) : Nat → St
  | 0 => s
  | n + 1 => rnd (rn W s n) (KL.getD n 0) (W.getD n 0)

def St.add (s t : St) : St := ⟨s.a + t.a, s.b + t.b, s.c + t.c, s.d + t.d, s.e + t.e, s.f + t.f, s.g + t.g, s.h + t.h⟩

/-- The state behind one more piece. -/
def stir (s : St) (p : List UInt8) : St := s.add (rn (sch p 48) s 64)

/-- The state at first. -/
def s0 : St := ⟨1779033703, 3144134277, 1013904242, 2773480762, 1359893119, 2600822924, 528734635, 1541459225⟩

/-- Words as cells. -/
def wvs (l : List Wd) : List Value := l.map fun x => Value.int .u32 (N x)

theorem wvs_length (l : List Wd) : (wvs l).length = l.length := by simp [wvs]
theorem wvs_get (l : List Wd) (j : Nat) (h : j < l.length) : (wvs l)[j]? = some (.int .u32 (N (l.getD j 0))) := by
  simp [wvs, h]
theorem wvs_set (l : List Wd) (i : Nat) (x : Wd) : (wvs l).toArray.setIfInBounds i (.int .u32 (N x)) = (wvs (l.set i x)).toArray := by
  rw [List.setIfInBounds_toArray]
  simp [wvs, List.map_set]

/-- Words lie at block p, as an array of type t. -/
def WAt (w : World) (p t : Nat) (l : List Wd) : Prop := w.heap[p]? = some (.cells (wvs l).toArray t (0, 0))

theorem WAt.kept {S : Nat → Prop} {w w' : World} {p t : Nat} {l : List Wd} (h : WAt w p t l) (f : Fr S w w') (hs : ¬ S p) : WAt w' p t l := by
  unfold WAt at *
  rw [f.block p (lt_of_heap h) hs]; exact h
theorem WAt.cell {w : World} {p t : Nat} {l : List Wd} (h : WAt w p t l) (j : Nat) (hj : j < l.length) : w.cell? ⟨p, j, none⟩ = some (.int .u32 (N (l.getD j 0))) := by
  rw [cell_of_heap h]
  simpa using wvs_get l j hj
theorem WAt.frozen {w : World} {p t : Nat} {l : List Wd} (h : WAt w p t l) (j : Nat) : w.frozen? ⟨p, j, none⟩ = false := frozen_of_heap h j
theorem WAt.set {w : World} {p t : Nat} {l : List Wd} (h : WAt w p t l) (i : Nat) (x : Wd) : WAt (w.setCell ⟨p, i, none⟩ (.int .u32 (N x))) p t (l.set i x) := by
  unfold WAt at *
  rw [← wvs_set]
  exact heap_setCell_same w p i _ t _ h

theorem shlB (b : UInt8) (m : Nat) (k : Int) (e : k = 2 ^ m) : ((b.toNat : Nat) : Int) * k % 4294967296 = N (B8 b <<< m) := by
  rw [← shl32, N_B8, e]

attribute [local go_sem ↓] Go.wp_at_zero Go.wp_at_succ

set_option maxHeartbeats 400000 in
theorem word_at (w : World) (b o n c : Nat) (x0 x1 x2 x3 : UInt8) (hn : 4 ≤ n) (h0 : w.cell? ⟨b, o, none⟩ = some (.int .u8 ((x0.toNat : Nat) : Int))) (h1 : w.cell? ⟨b, o + 1, none⟩ = some (.int .u8 ((x1.toNat : Nat) : Int))) (h2 : w.cell? ⟨b, o + 2, none⟩ = some (.int .u8 ((x2.toNat : Nat) : Int))) (h3 : w.cell? ⟨b, o + 3, none⟩ = some (.int .u8 ((x3.toNat : Nat) : Int))) :
    Calls Tryd.prog 50 #[.slice (some ⟨b, o, none⟩) n c] w fun e w' => e = .returned (.int .u32 (N (wd4 x0 x1 x2 x3))) ∧ ∃ k, w' = w.drewN k := by
  have a0 := wrap_N (B8 x0)
  have a1 := wrap_N (B8 x1)
  have a2 := wrap_N (B8 x2)
  have a3 := wrap_N (B8 x3)
  have e0 := shlB x0 24 16777216 (by decide)
  have e1 := shlB x1 16 65536 (by decide)
  have e2 := shlB x2 8 256 (by decide)
  rw [← N_B8] at h0 h1 h2 h3 e0 e1 e2
  have o1 := or32 (B8 x0 <<< 24) (B8 x1 <<< 16)
  have o2 := or32 (B8 x0 <<< 24 ||| B8 x1 <<< 16) (B8 x2 <<< 8)
  have o3 := or32 (B8 x0 <<< 24 ||| B8 x1 <<< 16 ||| B8 x2 <<< 8) (B8 x3)
  have hd : B8 x0 <<< 24 ||| B8 x1 <<< 16 ||| B8 x2 <<< 8 ||| B8 x3 = wd4 x0 x1 x2 x3 := rfl
  rw [hd] at o3
  clear hd
  generalize wd4 x0 x1 x2 x3 = res at *
  generalize B8 x0 <<< 24 ||| B8 x1 <<< 16 ||| B8 x2 <<< 8 = y2 at *
  generalize B8 x0 <<< 24 ||| B8 x1 <<< 16 = y1 at *
  generalize B8 x0 <<< 24 = y0 at *
  generalize B8 x1 <<< 16 = z1 at *
  generalize B8 x2 <<< 8 = z2 at *
  have n0 : (0 : Int) < (n : Int) := by omega
  have n1 : (1 : Int) < (n : Int) := by omega
  have n2 : (2 : Int) < (n : Int) := by omega
  have n3 : (3 : Int) < (n : Int) := by omega
  go_enter Tryd.func50, Tryd.ntmps50
  go_wp2_with fail
  go_quiet (fail)
  go_wp2_with fail
  go_ret
  exact ⟨rfl, _, rfl⟩
end Go.Proofs.YtlicmlioilkfdaaDoor
