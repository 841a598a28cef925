/-
  A list of steps as it comes, and the walk of the law's own 'huge'.
-/
import Derived.Test.YtmnbdpdblpgnlaaWs3
namespace Go.Proofs.Ytmnbdpdblpgnlaa
open Go.RowKit
set_option linter.unusedVariables false

attribute [local go_sem ↓] Go.wp_at_zero Go.wp_at_succ

/-- A step, plainly, with the values of its slices. -/
structure Sp where
  kind : Int
  n : Int
  most : Int
  pv : Value
  lv : Value
  tv : Value
  lp : List UInt8
  ln : List Int
  lt : List ByteArray

instance : Inhabited Sp := ⟨⟨0, 0, 0, .slice none 0 0, .slice none 0 0, .slice none 0 0, [], [], []⟩⟩

def Sp.cells (s : Sp) : List Value := [.int .i64 s.kind, .int .u64 s.n, s.pv, .int .i64 s.most, s.lv, s.tv]

structure Sp.Ok (w : World) (s : Sp) : Prop where
  hn : 0 ≤ s.n ∧ s.n < 18446744073709551616
  rp : Rd w s.pv s.lp
  rl : RdV w s.lv (uvs s.ln)
  rt : RdV w s.tv (svs s.lt)
  wl : ∀ n ∈ s.ln, 0 ≤ n ∧ n < 4294967296
  wt : ∀ t ∈ s.lt, t.size ≤ 1048576
  zp : s.lp.length ≤ 1048576
  zl : s.ln.length ≤ 1048576
  zt : s.lt.length ≤ 1048576
  hm : -9223372036854775808 ≤ s.most ∧ s.most ≤ 9223372036854775807

theorem Sp.Ok.kept {w w' : World} {s : Sp} (h : s.Ok w) (f : Fr (fun _ => False) w w') : s.Ok w' :=
  ⟨h.hn, h.rp.kept f (fun _ _ h => h), h.rl.kept f (fun _ _ h => h), h.rt.kept f (fun _ _ h => h), h.wl, h.wt, h.zp, h.zl, h.zt, h.hm⟩

/-- A list of steps that can be read. -/
def RdS (w : World) (v : Value) (ss : List Sp) : Prop :=
  (v = .slice none 0 0 ∧ ss = []) ∨
  ∃ ad cap, v = .slice (some ad) ss.length cap ∧ ss.length ≤ cap ∧ cap ≤ maxLen ∧ ∀ j (h : j < ss.length), (∀ i (hi : i < 6), w.cell? (ad.add (j * 6 + i)) = some ((ss[j]).cells[i]'(by simpa [Sp.cells] using hi))) ∧ (ss[j]).Ok w

theorem RdS.kept {w w' : World} {v : Value} {ss : List Sp} (h : RdS w v ss) (f : Fr (fun _ => False) w w') : RdS w' v ss := by
  rcases h with h | ⟨ad, cap, h1, h2, h3, h4⟩
  · exact .inl h
  · refine .inr ⟨ad, cap, h1, h2, h3, fun j hj => ⟨fun i hi => ?_, ((h4 j hj).2).kept f⟩⟩
    rw [f.cell (World.block_lt_of_cell? w _ ((h4 j hj).1 i hi)) id]
    exact (h4 j hj).1 i hi

theorem RdS.shape {w : World} {v : Value} {ss : List Sp} (h : RdS w v ss) : ∃ ao cap, v = .slice ao ss.length cap := by
  rcases h with ⟨rfl, rfl⟩ | ⟨ad, cap, rfl, _⟩
  · exact ⟨_, _, rfl⟩
  · exact ⟨_, _, rfl⟩

theorem RdS.len {w : World} {v : Value} {ss : List Sp} (h : RdS w v ss) : ss.length ≤ maxLen := by
  rcases h with ⟨_, rfl⟩ | ⟨ad, cap, rfl, h1, h2, h3⟩
  · simp
  · omega

theorem RdS.lits {w : World} {ao : Option Addr} {n cap : Nat} {ss : List Sp} (h : RdS w (.slice ao n cap) ss) (hl : 0 < ss.length) : ∃ b o, ao = some ⟨b, o, none⟩ ∧ n = ss.length ∧ n ≤ cap ∧ cap ≤ maxLen ∧
    ∀ j (h : j < ss.length), (∀ i (hi : i < 6), w.cell? ⟨b, o + (j * 6 + i), none⟩ = some ((ss[j]).cells[i]'(by simpa [Sp.cells] using hi))) ∧ (ss[j]).Ok w := by
  rcases h with ⟨_, rfl⟩ | ⟨ad, cap', hv, h1, h2, h3⟩
  · simp at hl
  · simp only [Value.slice.injEq] at hv
    obtain ⟨rfl, rfl, rfl⟩ := hv
    obtain ⟨b, off, spot⟩ := ad
    have hspot : spot = none := by simpa [Addr.add] using World.cell?_spot ((h3 0 hl).1 0 (by omega))
    subst hspot
    exact ⟨b, off, rfl, rfl, h1, h2, fun j hj => ⟨fun i hi => by rw [← Addr.add_lit]; exact (h3 j hj).1 i hi, (h3 j hj).2⟩⟩

theorem wrap_in {n : Int} (h : -9223372036854775808 ≤ n) (h2 : n ≤ 9223372036854775807) : IntKind.i64.wrap n = n := by
  simp only [IntKind.wrap, IntKind.bits, IntKind.signed]
  simp
  omega

/-- The six cells of one step. -/
theorem six {w : World} {b o : Nat} {s : Sp} (h : ∀ i (hi : i < 6), w.cell? ⟨b, o + i, none⟩ = some (s.cells[i]'(by simpa [Sp.cells] using hi))) :
    w.cell? ⟨b, o, none⟩ = some (.int .i64 s.kind) ∧ w.cell? ⟨b, o + 1, none⟩ = some (.int .u64 s.n) ∧ w.cell? ⟨b, o + 2, none⟩ = some s.pv ∧ w.cell? ⟨b, o + 3, none⟩ = some (.int .i64 s.most) ∧ w.cell? ⟨b, o + 4, none⟩ = some s.lv ∧ w.cell? ⟨b, o + 5, none⟩ = some s.tv :=
  ⟨h 0 (by omega), h 1 (by omega), h 2 (by omega), h 3 (by omega), h 4 (by omega), h 5 (by omega)⟩

/-- What 'huge' answers: if not, there are few steps. -/
def HugeSaid (w w' : World) (n : Nat) (e : Ending) : Prop := ∃ b, e = .returned (.bool b) ∧ Qt w w' ∧ (b = false → n ≤ 60)

set_option maxHeartbeats 1000000 in
set_option maxRecDepth 100000 in
theorem huge_any (w : World) (x : Value) (ss : List Sp) (hx : RdS w x ss) : Calls Try.prog 8 #[x] w fun e w' => HugeSaid w w' ss.length e := by
  have hlm := hx.len
  unfold maxLen at hlm
  obtain ⟨ao, cap, rfl⟩ := hx.shape
  go_enter Try.func8, Try.ntmps8
  go_wp2_with fail
  go_loopw [3, 4] (fun n i w' => ∃ (k : Nat) (m : Nat), k ≤ ss.length ∧ k ≤ 61 ∧ i = .int .i64 k ∧ n = .int .i64 m ∧ m ≤ k * 16777216 ∧ Qt w w') (fun _ i _ => ss.length - (intOf i).toNat)
  case atStart => exact ⟨0, 0, Nat.zero_le _, by omega, rfl, rfl, by omega, Qt.refl _⟩
  case round =>
    obtain ⟨k, m, hk, hk61, rfl, rfl, hm, q0⟩ := hrel
    by_cases hlt : k < ss.length
    · by_cases hk60 : k ≤ 60
      · obtain ⟨b, o, rfl, -, -, hcm, hcell⟩ := (hx.kept (q0.fr (fun _ => False))).lits (by omega)
        obtain ⟨hsix, hok⟩ := hcell k hlt
        obtain ⟨c0, c1, c2, c3, c4, c5⟩ := six (o := o + k * 6) (fun i hi => by rw [Nat.add_assoc]; exact hsix i hi)
        have zp := hok.zp
        have zl := hok.zl
        have zt := hok.zt
        have wt := hok.wt
        have RT := hide hok.rt
        obtain ⟨a1, p1, e1⟩ := hok.rp.shape
        obtain ⟨a2, p2, e2⟩ := hok.rl.shape
        obtain ⟨a3, p3, e3⟩ := hok.rt.shape
        rw [show (uvs (ss[k]).ln).length = (ss[k]).ln.length from by simp [uvs]] at e2
        rw [show (svs (ss[k]).lt).length = (ss[k]).lt.length from by simp [svs]] at e3
        rw [e1] at c2
        rw [e2] at c4
        rw [e3] at c5 RT
        have WT := hide wt
        generalize (ss[k]).lp.length = P at *
        generalize (ss[k]).ln.length = L at *
        generalize (ss[k]).lt = lt at *
        unfold maxLen at hcm
        have w1 : IntKind.i64.wrap ((m : Int) + (P : Int)) = (m : Int) + (P : Int) := wrap_in (by omega) (by omega)
        have w2 : IntKind.i64.wrap (8 * (L : Int)) = 8 * (L : Int) := wrap_in (by omega) (by omega)
        have w3 : IntKind.i64.wrap ((m : Int) + (P : Int) + 8 * (L : Int)) = (m : Int) + (P : Int) + 8 * (L : Int) := wrap_in (by omega) (by omega)
        have hlti : (k : Int) < (ss.length : Int) := by omega
        have hk0 : (0 : Int) ≤ (k : Int) := by omega
        have hk6 : (k : Int) ≤ 60 := by omega
        clear hcell hx hsix hok e1 e2 e3 c0 c1 c3 wt
        go_wp2_with fail
        go_quiet (fail)
        go_wp2_with fail
        have Q1 := hide (q0.trans (Qt.drewN wr nq))
        have c5' : (wr.drewN nq).cell? ⟨b, o + k * 6 + 5, none⟩ = some (.slice a3 lt.length p3) := c5
        have RT' : Hid (RdV (wr.drewN nq) (.slice a3 lt.length p3) (svs lt)) := (unhide RT).kept ((Qt.drewN wr nq).fr (fun _ => False)) (fun _ _ h => h)
        have hm1 : Hid (m + P + 8 * L ≤ (k + 1) * 16777216) := by show m + P + 8 * L ≤ (k + 1) * 16777216; omega
        clear q0 c2 c4 c5 RT w1 w2 w3 hm
        generalize wr.drewN nq = w1 at *
        go_loopw [3, 5] (fun n j w' => ∃ (i : Nat) (m' : Nat), i ≤ lt.length ∧ j = .int .i64 i ∧ n = .int .i64 m' ∧ m' ≤ (k + 1) * 16777216 ∧ Qt w1 w') (fun _ j _ => lt.length - (intOf j).toNat)
        case atStart => exact ⟨0, m + P + 8 * L, Nat.zero_le _, rfl, by simp, unhide hm1, Qt.refl _⟩
        case round =>
          obtain ⟨i, m', hi, rfl, rfl, hm', q2⟩ := hrel
          have c6 : wr.cell? ⟨b, o + k * 6 + 5, none⟩ = some (Value.slice a3 lt.length p3) := by rw [(q2.fr (fun _ => False)).cell (World.block_lt_of_cell? w1 _ c5') id]; exact c5'
          by_cases hit : i < lt.length
          · by_cases hm6 : m' ≤ 60000
            · obtain ⟨b3, o3, rfl, -, -, hcm3, hcell3⟩ := ((unhide RT').kept (q2.fr (fun _ => False)) (fun _ _ h => h)).lits (by simp [svs]; omega)
              have hc := hcell3 i (by simp [svs]; omega)
              simp only [svs, List.getElem_map] at hc
              have hz := unhide WT lt[i] (List.getElem_mem hit)
              have hzs : lt[i].size ≤ 1048576 := hz
              generalize lt[i] = t at *
              unfold maxLen at hcm3
              clear hcell3 c5' RT' hz
              have hm6i : (m' : Int) ≤ 60000 := by omega
              have hiti : (i : Int) < (lt.length : Int) := by omega
              go_wp2_with fail
              go_roundw
              case rel => exact ⟨i + 1, m' + t.size + 8, by omega, by go_num, congrArg (Value.int .i64) (by simp), by omega, q2⟩
              case measure => simp [intOf]; omega
            · have hm6i : ¬ (m' : Int) ≤ 60000 := by omega
              have hm6n : ¬ m' ≤ 60000 := by omega
              have Q2 := hide q2
              go_wp2_with fail
              go_roundw
              case rel => exact ⟨k + 1, m', by omega, by omega, by go_num, rfl, hm', (unhide Q1).trans (unhide Q2)⟩
              case measure => simp [intOf]; omega
          · have Q2 := hide q2
            go_wp2_with fail
            go_roundw
            case rel => exact ⟨k + 1, m', by omega, by omega, by go_num, rfl, hm', (unhide Q1).trans (unhide Q2)⟩
            case measure => simp [intOf]; omega
      · have hk6 : ¬ (k : Int) ≤ 60 := by omega
        have hl6 : (60 : Int) < (ss.length : Int) := by omega
        go_wp2_with fail
        go_ret
        exact ⟨true, rfl, q0, fun h => by simp at h⟩
    · by_cases h60 : ss.length ≤ 60
      · have hl6 : ¬ (60 : Int) < (ss.length : Int) := by omega
        go_wp2_with fail
        go_ret
        exact ⟨_, rfl, q0, fun _ => h60⟩
      · have hl6 : (60 : Int) < (ss.length : Int) := by omega
        go_wp2_with fail
        go_ret
        exact ⟨true, rfl, q0, fun h => by simp at h⟩

end Go.Proofs.Ytmnbdpdblpgnlaa
