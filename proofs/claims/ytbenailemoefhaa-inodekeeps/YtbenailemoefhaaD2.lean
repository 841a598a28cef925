/-
  An inode's head, taken out of bytes.
-/
import Derived.Test.YtbenailemoefhaaD1
import Derived.Test.YtbenailemoefhaaCg4
import Derived.Test.YtbenailemoefhaaSt
import Derived.Deep.DeepCutAuto
import Derived.Deep.CutBlock
namespace Go.Proofs.Ytbenailemoefhaa
open Go.RowKit
set_option linter.unusedVariables false
set_option linter.unusedSimpArgs false

attribute [local go_sem ↓] Go.wp_at_zero Go.wp_at_succ

/-- The number of so many bytes at a place. -/
def nb (b : List UInt8) (p k : Nat) : Nat := val ((b.drop p).take k)
theorem nb_lt (b : List UInt8) (p k : Nat) : nb b p k < 256 ^ k := by
  have h := val_lt ((b.drop p).take k)
  have h2 : 256 ^ ((b.drop p).take k).length ≤ 256 ^ k := Nat.pow_le_pow_right (by decide) (by rw [List.length_take]; omega)
  unfold nb
  omega
/-- The head that bytes are. -/
def hdX (b : List UInt8) : In := ⟨((nb b 0 8 : Nat) : Int), ((nb b 8 4 : Nat) : Int), ((nb b 12 4 : Nat) : Int), ((nb b 16 4 : Nat) : Int), ((nb b 20 4 : Nat) : Int), ((nb b 24 4 : Nat) : Int), ((nb b 28 4 : Nat) : Int), ((nb b 32 8 : Nat) : Int), ((nb b 40 8 : Nat) : Int), ((nb b 48 8 : Nat) : Int), ((nb b 56 8 : Nat) : Int), ((nb b 64 8 : Nat) : Int), ((nb b 72 8 : Nat) : Int), ⟨#[]⟩⟩
theorem bhd25 (x0 x1 x2 x3 x4 x5 x6 x7 x8 x9 x10 x11 x12 : Int) : Try.prog.built 25 [(0, .int .u64 x0), (1, .int .u32 x1), (2, .int .i64 x2), (3, .int .u32 x3), (4, .int .u32 x4), (5, .int .u32 x5), (6, .int .u32 x6), (7, .int .u64 x7), (8, .int .u64 x8), (9, .int .u64 x9), (10, .int .u64 x10), (11, .int .u64 x11), (12, .int .u64 x12)] = some (In.cs ⟨x0, x1, x2, x3, x4, x5, x6, x7, x8, x9, x10, x11, x12, ⟨#[]⟩⟩) := by kernel_rfl
theorem wl_hd25 {opsA : Array Oper} {rest : List Oper} {o : Oper} {a : Act} {w : World} {Q : Exit → Act → World → Prop} {p0 p1 p2 p3 p4 p5 p6 p7 p8 p9 p10 p11 p12 : Operand} {x0 x1 x2 x3 x4 x5 x6 x7 x8 x9 x10 x11 x12 : Int} (hg : o.guard = none) (ho : o.op = .build 25 #[(0, p0), (1, p1), (2, p2), (3, p3), (4, p4), (5, p5), (6, p6), (7, p7), (8, p8), (9, p9), (10, p10), (11, p11), (12, p12)]) (h0 : a.eval p0 = .int .u64 x0) (h1 : a.eval p1 = .int .u32 x1) (h2 : a.eval p2 = .int .i64 x2) (h3 : a.eval p3 = .int .u32 x3) (h4 : a.eval p4 = .int .u32 x4) (h5 : a.eval p5 = .int .u32 x5) (h6 : a.eval p6 = .int .u32 x6) (h7 : a.eval p7 = .int .u64 x7) (h8 : a.eval p8 = .int .u64 x8) (h9 : a.eval p9 = .int .u64 x9) (h10 : a.eval p10 = .int .u64 x10) (h11 : a.eval p11 = .int .u64 x11) (h12 : a.eval p12 = .int .u64 x12) (h : wpList Try.prog opsA Q rest (a.put o.dst (.agg (In.cs ⟨x0, x1, x2, x3, x4, x5, x6, x7, x8, x9, x10, x11, x12, ⟨#[]⟩⟩))) w) : wpList Try.prog opsA Q (o :: rest) a w := by
  have hb : Try.prog.built 25 (#[(0, p0), (1, p1), (2, p2), (3, p3), (4, p4), (5, p5), (6, p6), (7, p7), (8, p8), (9, p9), (10, p10), (11, p11), (12, p12)].map fun (i, x) => (i, a.eval x) : Array (Nat × Value)).toList = some (In.cs ⟨x0, x1, x2, x3, x4, x5, x6, x7, x8, x9, x10, x11, x12, ⟨#[]⟩⟩) := by
    simp only [List.map_toArray, List.map_cons, List.map_nil, h0, h1, h2, h3, h4, h5, h6, h7, h8, h9, h10, h11, h12]
    exact bhd25 x0 x1 x2 x3 x4 x5 x6 x7 x8 x9 x10 x11 x12
  exact wpList_build hg 25 _ ho (by rw [hb]; rfl) (by rw [hb]; exact h)
/-- The source, behind so many bytes. -/
structure Src (w0 W : World) (p B o n cap : Nat) (b : List UInt8) (pos : Nat) : Prop where
  s : SAt W p (.slice (some ⟨B, o + pos, none⟩) (n - pos) (cap - pos))
  f : Fr (fun j => j = p) w0 W
section
variable {w0 W : World} {p B o n cap pos : Nat} {b : List UInt8}
theorem Src.cells (H : Src w0 W p B o n cap b pos) (hB : B ≠ p) (hb : ∀ j (h : j < b.length), w0.cell? ⟨B, o + j, none⟩ = some (.int .u8 ((b[j].toNat : Nat) : Int))) (k : Nat) : ∀ j (h : j < ((b.drop pos).take k).length), W.cell? ⟨B, o + pos + j, none⟩ = some (.int .u8 (((((b.drop pos).take k)[j]).toNat : Nat) : Int)) := by
  intro j hj
  have hj2 : pos + j < b.length := by rw [List.length_take, List.length_drop] at hj; omega
  have h1 := hb (pos + j) hj2
  rw [H.f.cell (World.block_lt_of_cell? w0 _ (by rw [Nat.add_assoc]; exact h1)) (fun e => hB e), Nat.add_assoc, h1]
  simp
theorem src_word (H : Src w0 W p B o n cap b pos) (hn : n = b.length) (hnc : n ≤ cap) (hcm : cap ≤ maxLen) (hB : B ≠ p) (hb : ∀ j (h : j < b.length), w0.cell? ⟨B, o + j, none⟩ = some (.int .u8 ((b[j].toNat : Nat) : Int))) (hp : pos + 4 < n) : Calls Try.prog 58 #[(.pointer (some ⟨p, 0, none⟩))] W fun e w' => e = .returned (.int .u32 ((nb b pos 4 : Nat) : Int)) ∧ Src w0 w' p B o n cap b (pos + 4) := by
  refine (word_any W p B (o + pos) (n - pos) (cap - pos) ((b.drop pos).take 4) H.s (by rw [List.length_take, List.length_drop]; omega) (by omega) (by omega) (by omega) (H.cells hB hb 4)).mono ?_
  rintro e w' ⟨rfl, f, s⟩
  refine ⟨rfl, ?_, H.f.trans f (fun _ _ e => e)⟩
  unfold nx at s
  rw [if_neg (by omega)] at s
  rw [show o + (pos + 4) = o + pos + 4 by omega, show n - (pos + 4) = n - pos - 4 by omega, show cap - (pos + 4) = cap - pos - 4 by omega]
  exact s
theorem src_long (H : Src w0 W p B o n cap b pos) (hn : n = b.length) (hnc : n ≤ cap) (hcm : cap ≤ maxLen) (hB : B ≠ p) (hb : ∀ j (h : j < b.length), w0.cell? ⟨B, o + j, none⟩ = some (.int .u8 ((b[j].toNat : Nat) : Int))) (hp : pos + 8 < n) : Calls Try.prog 59 #[(.pointer (some ⟨p, 0, none⟩))] W fun e w' => e = .returned (.int .u64 ((nb b pos 8 : Nat) : Int)) ∧ Src w0 w' p B o n cap b (pos + 8) := by
  refine (long8_any W p B (o + pos) (n - pos) (cap - pos) ((b.drop pos).take 8) H.s (by rw [List.length_take, List.length_drop]; omega) (by omega) (by omega) (by omega) (H.cells hB hb 8)).mono ?_
  rintro e w' ⟨rfl, f, s⟩
  refine ⟨rfl, ?_, H.f.trans f (fun _ _ e => e)⟩
  unfold nx at s
  rw [if_neg (by omega)] at s
  rw [show o + (pos + 8) = o + pos + 8 by omega, show n - (pos + 8) = n - pos - 8 by omega, show cap - (pos + 8) = cap - pos - 8 by omega]
  exact s
theorem src_last (H : Src w0 W p B o n cap b pos) (hn : n = b.length) (hnc : n ≤ cap) (hcm : cap ≤ maxLen) (hB : B ≠ p) (hb : ∀ j (h : j < b.length), w0.cell? ⟨B, o + j, none⟩ = some (.int .u8 ((b[j].toNat : Nat) : Int))) (hp : pos + 4 ≤ n) : Calls Try.prog 58 #[(.pointer (some ⟨p, 0, none⟩))] W fun e w' => e = .returned (.int .u32 ((nb b pos 4 : Nat) : Int)) ∧ Fr (fun j => j = p) W w' := by
  refine (word_any W p B (o + pos) (n - pos) (cap - pos) ((b.drop pos).take 4) H.s (by rw [List.length_take, List.length_drop]; omega) (by omega) (by omega) (by omega) (H.cells hB hb 4)).mono ?_
  rintro e w' ⟨rfl, f, s⟩
  exact ⟨rfl, f⟩
end
theorem Src.kept0 {w0 W W' : World} {p B o n cap pos : Nat} {b : List UInt8} (H : Src w0 W p B o n cap b pos) (f : Fr (fun _ => False) W W') : Src w0 W' p B o n cap b pos :=
  ⟨by have h : W.heap[p]? = _ := H.s; unfold SAt; rw [f.block _ (lt_of_heap h) id]; exact h, H.f.trans f (fun _ _ e => e.elim)⟩
theorem Fr.trans' {S : Nat → Prop} {a b c : World} (h : Fr (fun _ => False) a b) (k : Fr S b c) : Fr S a c := (h.mono (fun _ _ e => e.elim)).trans k (fun _ _ e => e)
theorem Fr.setRow_one {S : Nat → Prop} (w : World) {n : Nat} (cs : Array Value) (h : S n) : Fr S w (w.setRow n cs) :=
  ⟨rfl, rfl, rfl, by simp, fun j _ hj => setRow_other w n j _ (fun e => hj (by rw [e]; exact h))⟩
theorem setRow_at {w : World} {n : Nat} {cs : Array Value} {t : TypeId} (h : w.heap[n]? = some (.cells cs t (0, 0))) (z : Array Value) : (w.setRow n z).heap[n]? = some (.cells z t (0, 0)) := setRow_heap w n cs z t (0, 0) h
theorem path2b {l : List Oper} {a b : Nat} (h : (reachL a l []).getD b false = true) : ∀ k i j, ([a, b] : List Nat)[k]? = some i → ([a, b] : List Nat)[k + 1]? = some j → Path l j i := by
  intro k i j hi hj
  rcases k with _ | k
  · simp at hi hj; subst hi hj; exact waits h
  · rcases k with _ | k <;> simp at hj
theorem wrap64_small (z : Int) (h0 : 0 ≤ z) (h1 : z < 4294967296) : wrap64 z = z := by
  unfold wrap64; omega
theorem x_load25 {ρ : Operand → Value} {o : Oper} {w : World} {x : Operand} {n : Nat} {y : In} (ho : o.op = .load 25 x) (hx : ρ x = .pointer (some ⟨n, 0, none⟩)) (h : w.heap[n]? = some (.cells y.cs 25 (0, 0))) : (execOp ρ o).run Try.prog w = .ok (.value y.v) w := by
  have hr : row? w n = some y.cs := by unfold row?; rw [h]; rfl
  have h1 : rowN w n 14 = true := by unfold rowN; rw [hr]; simp
  have h2 : rowD w n = y.cs := by unfold rowD; rw [hr]; rfl
  simp only [execOp, ho, hx, Instr.loadAt, Instr.sureAddr, Sem.run_bind, Sem.run_pure, Result.andThen_ok, load25 w n h1, h2]
theorem x_store25 {ρ : Operand → Value} {o : Oper} {w : World} {x y : Operand} {n : Nat} {z u : In} {t : TypeId} (ho : o.op = .store 25 x y) (hx : ρ x = .pointer (some ⟨n, 0, none⟩)) (hy : ρ y = z.v) (h : w.heap[n]? = some (.cells u.cs t (0, 0))) : (execOp ρ o).run Try.prog w = .ok .skip (w.setRow n z.cs) := by
  have hr : row? w n = some u.cs := by unfold row?; rw [h]; rfl
  have h1 : rowN w n 14 = true := by unfold rowN; rw [hr]; simp
  simp only [execOp, ho, hx, hy, Instr.storeAt, Instr.sureAddr, Sem.run_bind, Sem.run_pure, Result.andThen_ok, store25 w n z h1]
set_option maxRecDepth 100000 in
set_option maxHeartbeats 4000000 in
theorem head_any (w : World) (v : Value) (b : List UInt8) (h : Rd w v b) (hb : 84 ≤ b.length) : Calls Try.prog 44 #[v] w fun e w' => e = .returned (.tuple #[(hdX b).v, .int .u32 ((nb b 80 4 : Nat) : Int)]) ∧ Fr (fun _ => False) w w' := by
  obtain ⟨ao, cap, rfl⟩ := h.shape
  obtain ⟨B, o, rfl, -, hnc, hcm, hc⟩ := h.lits (by omega)
  have hBw : B < w.heap.size := World.block_lt_of_cell? w _ (hc 0 (by omega))
  obtain ⟨n, hn⟩ : ∃ n, n = b.length := ⟨_, rfl⟩
  rw [← hn] at hnc hb ⊢
  have HN := hide hn
  have HC := hide hc
  have HB := hide hBw
  clear h hc hn hBw
  go_enter Try.func44, Try.ntmps44
  go_upto_region 2 with (first | (refine wl_zero25 rfl rfl ?_))
  obtain ⟨W1, hW1⟩ : ∃ W1, W1 = ((w.alloc (.cells (In.cs ⟨0, 0, 0, 0, 0, 0, 0, 0, 0, 0, 0, 0, 0, ⟨#[]⟩⟩) 25)).alloc (.cells #[.slice (some ⟨B, o, none⟩) n cap] 104)) := ⟨_, rfl⟩
  have F1 : Hid (Fr (fun _ => False) w W1) := hide (by rw [hW1]; exact ((Fr.refl _ _).alloc _).alloc _)
  have HS : Hid (Src W1 W1 (w.heap.size + 1) B o n cap b 0) := hide ⟨by rw [hW1]; unfold SAt; simpa using heap_alloc_new (w.alloc (.cells (In.cs ⟨0, 0, 0, 0, 0, 0, 0, 0, 0, 0, 0, 0, 0, ⟨#[]⟩⟩) 25)) (.cells #[.slice (some ⟨B, o, none⟩) n cap] 104), Fr.refl _ _⟩
  have HC1 : Hid (∀ j (h : j < b.length), W1.cell? ⟨B, o + j, none⟩ = some (.int .u8 ((b[j].toNat : Nat) : Int))) := hide (fun j hj => by rw [(unhide F1).cell (unhide HB) id]; exact unhide HC j hj)
  have HBp : Hid (B ≠ w.heap.size + 1) := hide (by have := unhide HB; omega)
  have HZ : Hid (W1.heap[w.heap.size]? = some (.cells (In.cs In.zero) 25 (0, 0))) := hide (by
    rw [hW1, Below.heap_alloc _ _ _ (by simp)]; exact heap_alloc_new w _)
  rw [← hW1]
  clear hW1 HC
  go_wp2_with fail
  refine (src_long (unhide HS) (unhide HN) hnc hcm (unhide HBp) (unhide HC1) (by omega)).mono ?_
  rintro e w2 ⟨rfl, s0⟩
  obtain ⟨y0, hy0⟩ : ∃ y, y = nb b 0 8 := ⟨_, rfl⟩
  rw [← hy0]
  have HY0 := hide hy0
  have S0 := hide s0
  clear s0 hy0 HS
  go_wp2_with fail
  refine (src_word (unhide S0) (unhide HN) hnc hcm (unhide HBp) (unhide HC1) (by omega)).mono ?_
  rintro e w3 ⟨rfl, s1⟩
  obtain ⟨y1, hy1⟩ : ∃ y, y = nb b 8 4 := ⟨_, rfl⟩
  rw [← hy1]
  have HY1 := hide hy1
  have S1 := hide s1
  clear s1 hy1 S0
  go_wp2_with fail
  refine (src_word (unhide S1) (unhide HN) hnc hcm (unhide HBp) (unhide HC1) (by omega)).mono ?_
  rintro e w4 ⟨rfl, s2⟩
  obtain ⟨y2, hy2⟩ : ∃ y, y = nb b 12 4 := ⟨_, rfl⟩
  rw [← hy2]
  have HY2 := hide hy2
  have S2 := hide s2
  clear s2 hy2 S1
  go_wp2_with fail
  refine (src_word (unhide S2) (unhide HN) hnc hcm (unhide HBp) (unhide HC1) (by omega)).mono ?_
  rintro e w5 ⟨rfl, s3⟩
  obtain ⟨y3, hy3⟩ : ∃ y, y = nb b 16 4 := ⟨_, rfl⟩
  rw [← hy3]
  have HY3 := hide hy3
  have S3 := hide s3
  clear s3 hy3 S2
  go_wp2_with fail
  refine (src_word (unhide S3) (unhide HN) hnc hcm (unhide HBp) (unhide HC1) (by omega)).mono ?_
  rintro e w6 ⟨rfl, s4⟩
  obtain ⟨y4, hy4⟩ : ∃ y, y = nb b 20 4 := ⟨_, rfl⟩
  rw [← hy4]
  have HY4 := hide hy4
  have S4 := hide s4
  clear s4 hy4 S3
  go_wp2_with fail
  refine (src_word (unhide S4) (unhide HN) hnc hcm (unhide HBp) (unhide HC1) (by omega)).mono ?_
  rintro e w7 ⟨rfl, s5⟩
  obtain ⟨y5, hy5⟩ : ∃ y, y = nb b 24 4 := ⟨_, rfl⟩
  rw [← hy5]
  have HY5 := hide hy5
  have S5 := hide s5
  clear s5 hy5 S4
  go_wp2_with fail
  refine (src_word (unhide S5) (unhide HN) hnc hcm (unhide HBp) (unhide HC1) (by omega)).mono ?_
  rintro e w8 ⟨rfl, s6⟩
  obtain ⟨y6, hy6⟩ : ∃ y, y = nb b 28 4 := ⟨_, rfl⟩
  rw [← hy6]
  have HY6 := hide hy6
  have S6 := hide s6
  clear s6 hy6 S5
  go_wp2_with fail
  refine (src_long (unhide S6) (unhide HN) hnc hcm (unhide HBp) (unhide HC1) (by omega)).mono ?_
  rintro e w9 ⟨rfl, s7⟩
  obtain ⟨y7, hy7⟩ : ∃ y, y = nb b 32 8 := ⟨_, rfl⟩
  rw [← hy7]
  have HY7 := hide hy7
  have S7 := hide s7
  clear s7 hy7 S6
  go_wp2_with fail
  refine (src_long (unhide S7) (unhide HN) hnc hcm (unhide HBp) (unhide HC1) (by omega)).mono ?_
  rintro e w10 ⟨rfl, s8⟩
  obtain ⟨y8, hy8⟩ : ∃ y, y = nb b 40 8 := ⟨_, rfl⟩
  rw [← hy8]
  have HY8 := hide hy8
  have S8 := hide s8
  clear s8 hy8 S7
  go_wp2_with fail
  refine (src_long (unhide S8) (unhide HN) hnc hcm (unhide HBp) (unhide HC1) (by omega)).mono ?_
  rintro e w11 ⟨rfl, s9⟩
  obtain ⟨y9, hy9⟩ : ∃ y, y = nb b 48 8 := ⟨_, rfl⟩
  rw [← hy9]
  have HY9 := hide hy9
  have S9 := hide s9
  clear s9 hy9 S8
  go_wp2_with fail
  refine (src_long (unhide S9) (unhide HN) hnc hcm (unhide HBp) (unhide HC1) (by omega)).mono ?_
  rintro e w12 ⟨rfl, s10⟩
  obtain ⟨y10, hy10⟩ : ∃ y, y = nb b 56 8 := ⟨_, rfl⟩
  rw [← hy10]
  have HY10 := hide hy10
  have S10 := hide s10
  clear s10 hy10 S9
  go_wp2_with fail
  refine (src_long (unhide S10) (unhide HN) hnc hcm (unhide HBp) (unhide HC1) (by omega)).mono ?_
  rintro e w13 ⟨rfl, s11⟩
  obtain ⟨y11, hy11⟩ : ∃ y, y = nb b 64 8 := ⟨_, rfl⟩
  rw [← hy11]
  have HY11 := hide hy11
  have S11 := hide s11
  clear s11 hy11 S10
  go_wp2_with fail
  refine (src_long (unhide S11) (unhide HN) hnc hcm (unhide HBp) (unhide HC1) (by omega)).mono ?_
  rintro e w14 ⟨rfl, s12⟩
  obtain ⟨y12, hy12⟩ : ∃ y, y = nb b 72 8 := ⟨_, rfl⟩
  rw [← hy12]
  have HY12 := hide hy12
  have S12 := hide s12
  clear s12 hy12 S11
  have hy2b : y2 < 4294967296 := by have h := nb_lt b 12 4; have e := unhide HY2; omega
  go_upto_region 3 with (first | (refine wl_hd25 rfl rfl rfl rfl rfl rfl rfl rfl rfl rfl rfl rfl rfl rfl rfl ?_) | (apply wl_store25 _ _ rfl rfl _ rfl _ rfl; (case hr => simp [go_sem]); (case hw => (simp [go_sem]; try exact rfl))))
  obtain ⟨X, hX⟩ : ∃ X : In, X = ⟨y0, y1, wrap64 (y2 : Int), y3, y4, y5, y6, y7, y8, y9, y10, y11, y12, ⟨#[]⟩⟩ := ⟨_, rfl⟩
  rw [← hX]
  have HXX : Hid (X = hdX b) := hide (by
    rw [hX, unhide HY0, unhide HY1, unhide HY3, unhide HY4, unhide HY5, unhide HY6, unhide HY7, unhide HY8, unhide HY9, unhide HY10, unhide HY11, unhide HY12]
    unfold hdX
    rw [← unhide HY2]
    congr 1
    rw [wrap64_small _ (by omega) (by omega)])
  obtain ⟨W15, hW15⟩ : ∃ W15, W15 = w14.alloc (.cells X.cs 25) := ⟨_, rfl⟩
  have S15 : Hid (Src W1 W15 (w.heap.size + 1) B o n cap b 80) := hide (by
    have h9 := unhide S12
    refine ⟨?_, by rw [hW15]; exact h9.f.alloc _⟩
    unfold SAt
    have h8 : w14.heap[w.heap.size + 1]? = some (.cells #[.slice (some ⟨B, o + 80, none⟩) (n - 80) (cap - 80)] 104 (0, 0)) := h9.s
    rw [hW15, Below.heap_alloc _ _ _ (lt_of_heap h8)]
    exact h8)
  have HQ : Hid (W15.heap[w14.heap.size]? = some (.cells X.cs 25 (0, 0))) := hide (by rw [hW15]; exact heap_alloc_new w14 _)
  have HZ2 : Hid (W15.heap[w.heap.size]? = some (.cells (In.cs In.zero) 25 (0, 0))) := hide (by
    have h9 := (unhide S15).f
    rw [h9.block _ (lt_of_heap (unhide HZ)) (by omega)]; exact unhide HZ)
  have hq : w.heap.size + 2 ≤ w14.heap.size := by
    have h1 := (unhide S12).f.size
    have h2 : SAt w14 (w.heap.size + 1) _ := (unhide S12).s
    have h3 := lt_of_heap h2
    omega
  have F15 : Hid (∀ W, Fr (fun k => k = w.heap.size + 1 ∨ k = w.heap.size) W15 W → Fr (fun _ => False) w W) := hide (fun W f => by
    have h1 := (unhide F1).trans (unhide S15).f (T := fun j => j = w.heap.size + 1) (fun k hk e => by omega)
    exact h1.trans f (fun k hk e => by omega))
  rw [← hW15]
  clear hW15 hX S12 HZ
  refine wp_nameK ?_
  intro a0 hA
  have h2 : a0.tmps.getD 2 undef = .pointer (some ⟨w.heap.size, 0, none⟩) := by rw [hA]; rfl
  have h4 : a0.tmps.getD 4 undef = .pointer (some ⟨w.heap.size + 1, 0, none⟩) := by rw [hA]; rfl
  have h5 : a0.tmps.getD 5 undef = .pointer (some ⟨w14.heap.size, 0, none⟩) := by rw [hA]; rfl
  have hsz : a0.tmps.size = 25 := by rw [hA]; rfl
  have hdf : a0.defers = [] := by rw [hA]; rfl
  clear hA
  refine wp_region_kinds3 (fun k => k = w.heap.size + 1 ∨ k = w.heap.size) (by kernel_rfl) (by kernel_rfl) (by decide +kernel) (by rw [hsz]; decide +kernel) [.eq (X.v), .eq (.int .u32 ((nb b 80 4 : Nat) : Int)), .any, .eq (.int .u32 ((nb b 80 4 : Nat) : Int))] [1, 2] (by decide) (by decide) (path2b (by kernel_rfl)) (fun k W => (k = 0 → Fr (fun _ => False) W15 W) ∧ (k = 1 → Fr (fun j => j = w.heap.size + 1) W15 W) ∧ (k = 2 → W.heap[w.heap.size]? = some (.cells X.cs 25 (0, 0)))) ⟨fun _ => (Fr.refl _ _).drew, fun e => by omega, fun e => by omega⟩ ?steps ?done
  case steps =>
    refine ⟨?_, ?_⟩
    · intro a' w' k' hb hf hs hc hq hg hd
      exact .inl ⟨wantedN rfl, k_val (X.v) (by decide) hs (x_load25 rfl ((hb.old 5 (by decide +kernel)).trans h5) (by rw [hf.block _ (lt_of_heap (unhide HQ)) (by omega)]; exact unhide HQ)) rfl⟩
    refine ⟨?_, ?_⟩
    · intro a' w' k' hb hf hs hc hq hg hd
      obtain rfl := hc 0 rfl; have hF0 := hs.1 rfl; exact .inl ⟨wantedN rfl, k_callC 58 _ (by decide) (e_call1 rfl rfl ((hb.old 4 (by decide +kernel)).trans h4) (fun _ _ => by simp [go_sem])) ((src_last (Src.kept0 (unhide S15) hF0) (unhide HN) hnc hcm (unhide HBp) (unhide HC1) (by omega)).mono (by rintro e w9 ⟨rfl, f9⟩; exact ⟨_, rfl, rfl, f9.mono (fun _ _ e => .inl e), ⟨fun e => by omega, fun _ => hF0.trans' f9, fun e => by omega⟩⟩))⟩
    refine ⟨?_, ?_⟩
    · intro a' w' k' hb hf hs hc hq hg hd
      obtain rfl := hc 1 rfl; have hF1 := hs.2.1 rfl; exact .inl ⟨wantedN rfl, k_store _ (by decide) ⟨fun e => by omega, fun e => by omega, fun _ => setRow_at (by rw [hF1.block _ (lt_of_heap (unhide HZ2)) (by omega)]; exact unhide HZ2) _⟩ (Fr.setRow_one _ _ (.inr rfl)) (x_store25 rfl ((hb.old 2 (by decide +kernel)).trans h2) (hd 0 (by kernel_rfl) 23 rfl) (by rw [hF1.block _ (lt_of_heap (unhide HZ2)) (by omega)]; exact unhide HZ2)) trivial⟩
    refine ⟨?_, ?_⟩
    · intro a' w' k' hb hf hs hc hq hg hd
      exact .inl ⟨wantedN rfl, k_val (.int .u32 ((nb b 80 4 : Nat) : Int)) (by decide) hs (x_assign rfl (hd 1 (by kernel_rfl) 24 rfl)) rfl⟩
    exact trivial
  case done =>
    intro a' w16 hb hf hs hall
    have hdf' : a'.defers = [] := by rw [hb.defers]; exact hdf
    have hv3 : a'.tmps.getD 3 undef = .int .u32 ((nb b 80 4 : Nat) : Int) := hall 3 (by decide) 3 rfl
    have hv2 : a'.tmps.getD 2 undef = .pointer (some ⟨w.heap.size, 0, none⟩) := (hb.old 2 (by decide +kernel)).trans h2
    have hrow := hs.2.2 rfl
    have hrr : row? w16 w.heap.size = some X.cs := by unfold row?; rw [hrow]; rfl
    have hr : bodyPost Try.prog Try.f44 (fun e w' => e = Ending.returned (.tuple #[(hdX b).v, .int .u32 ((nb b 80 4 : Nat) : Int)]) ∧ Fr (fun _ => False) w w') .ret a' w16 := by
      refine re25 (p := 2) (u := 3) rfl hv2 hdf' (by unfold rowN; rw [hrr]; simp) (c := X.cs) (by unfold rowD; rw [hrr]; rfl) ⟨?_, unhide F15 _ hf⟩
      rw [hv3, unhide HXX]
    clear hall hb
    apply_assumption
    exact wp_ret hr
end Go.Proofs.Ytbenailemoefhaa
