/-
  The cache's Clone, writeHome.
  Which block makes room.
  Room is made.
-/
import Derived.Test.YtdgmlopaeonacaaM05
import Derived.LaidEqlPtr
namespace Go.Proofs.Ytdgmlopaeonacaa
set_option linter.unusedVariables false
set_option linter.unusedSimpArgs false
open Go.RowKit
set_option linter.unusedVariables false

attribute [local go_sem ↓] Go.wp_at_zero Go.wp_at_succ

theorem knd_keep {w w' : World} {b t : Nat} (h : knd w b = t) (ht : t ≠ 1001) (f : Fr (fun _ => False) w w') : knd w' b = t := by
  have hb : b < w.heap.size := by
    rcases Nat.lt_or_ge b w.heap.size with h' | h'
    · exact h'
    · unfold knd at h
      rw [Array.getElem?_eq_none h'] at h
      exact absurd h.symm ht
  unfold knd at *
  rw [f.block b hb id]
  exact h

set_option maxRecDepth 100000 in
theorem clone_any (w : World) (ao : Option Addr) (n cap : Nat) (l : List UInt8) (hv : Rd w (.slice ao n cap) l) (hn : (ao.isSome = true)) (h0 : 0 < l.length) (hl : l.length = n) (hn5 : n ≤ 100000) : Calls Try.prog 43 #[.slice ao n cap] w fun e w' => ∃ a c, e = .returned (.slice a n c) ∧ Rd w' (.slice a n c) l ∧ (∀ b, (Value.slice a n c).ownBlock = some b → knd w' b = 5) ∧ Fr (fun _ => False) w w' ∧ ∀ b, (Value.slice a n c).ownBlock = some b → w.heap.size ≤ b := by
  obtain ⟨vb, vo, rfl, -, hvc, hvm, -⟩ := hv.lits h0
  obtain ⟨inf, hi0, hz0, hz1, hz2⟩ := info_parts Try.info5
  have hlm : n ≤ maxLen := by omega
  have hby : n ≤ 140737488355328 := by omega
  have HV := hide hv
  have HL := hide hl
  have HM := hide hlm
  have HBY := hide hby
  have heq : (binOp .eql 37 (.slice (some ⟨vb, vo, none⟩) n cap) (.slice none 0 0)).run Try.prog w = .ok (.bool false) w := Lib.run_eql_slice_nil w 37 5 _ _ _ _ _ Try.underlying37
  clear hv hl h0 hvc hvm hlm hby
  go_enter Try.func43, Try.ntmps43
  go_wp2_with (at_builtin; refine wpList_app rfl (.tmp 5) (.tmp 6) 37 rfl 5 inf _ 1 1 Try.underlying37 hi0 hz0 hz1 hz2 rfl (by decide) (.slice (some ⟨w.heap.size, 0, none⟩) 0 0) 0 [] rfl (.slice (some ⟨vb, vo, none⟩) n cap) rfl n (bvs l) (owns_new (heap_alloc_new _ _)) (by have := ((unhide HV).kept ((Fr.refl (fun _ => False) w).alloc (.cells #[] 5)) (fun _ _ h => h)).sr; rw [unhide HL] at this; exact this) (bvs_one _) (by rw [Nat.zero_add, Nat.mul_one]; exact unhide HBY) (by rw [Nat.zero_add]; exact unhide HM) ?_)
  intro ao c w2 o2 g2 p2
  have hR2 : Rd w2 (.slice ao n c) l := by
    refine Rd.of_owns (base := 0) ?_
    rw [unhide HL]
    exact o2
  have hnew : ∀ b, (Value.slice ao n c).ownBlock = some b → w.heap.size ≤ b := fun b hb => by
    rcases p2 with e | ⟨k, e, hk⟩
    · rw [e] at hb; simp [Value.ownBlock] at hb; omega
    · rw [e] at hb; simp at hb; omega
  have HR2 := hide hR2
  have HP2 := hide hnew
  have HK2 := hide (fun b (hb : (Value.slice ao n c).ownBlock = some b) => knd_owns o2 hb)
  have F2 := hide (((Fr.refl (fun _ => False) w).alloc (.cells #[] 5)).grown g2 (fun k hk e => by simp [Value.ownBlock] at e; omega))
  clear o2 g2 p2 hR2 hnew
  go_wp2_with fail
  go_ret
  exact ⟨ao, c, rfl, unhide HR2, unhide HK2, unhide F2, unhide HP2⟩

/-- A block's bytes can be read. -/
theorem rd_node {w : World} {a : Nat} {o n : Value} {x : Pl} (h : NAt w a o n x) (hx : x.P.length = 384) : Rd w (.slice (some ⟨a, 7, none⟩) 384 384) x.P := by
  refine Rd.lit hx (Nat.le_refl _) (by decide) fun j hj => ?_
  rw [cell_of_heap h]
  have : (nodeC o n x).toArray[7 + j]? = (bvs x.P)[j]? := by
    rw [show 7 + j = j + 7 by omega]
    simp [nodeC]
  rw [this, bvs_get _ j hj]

section
variable {ρ : Operand → Value} {o : Oper} {w : World}
theorem x_nilCheckI {x : Operand} {t : TypeId} {u : Value} (ho : o.op = .nilCheck x) (hx : ρ x = .iface t u) : (execOp ρ o).run Try.prog w = .ok (.value (.iface t u)) w := by
  simp [execOp, ho, hx, go_sem]
theorem mWrite (h : Nat) (w : World) : (method 255 25 (.pointer (some ⟨h, 0, none⟩)) "Write").run Try.prog w = .ok (68, .pointer (some ⟨h, 0, none⟩)) w := by kernel_rfl
theorem e_inv2 {x y z : Operand} {t : Array TypeId} {h : Nat} {a b : Value} (ho : o.op = .call { callee := .invoke x "Write", args := #[y, z], argTypes := t }) (hx : ρ x = .iface 25 (ptr h)) (hy : ρ y = a) (hz : ρ z = b) : (execOp ρ o).run Try.prog w = .ok (.enter 68 #[ptr h, a, b]) w := by
  unfold ptr at *
  simp [execOp, ho, hx, hy, hz, go_sem, mWrite]
theorem x_sl89 {x : Operand} {a : Nat} (ho : o.op = .slice 89 x none none none) (hx : ρ x = .pointer (some ⟨a, 7, none⟩)) : (execOp ρ o).run Try.prog w = .ok (.value (.slice (some ⟨a, 7, none⟩) 384 384)) w := by
  simp [execOp, ho, hx, go_sem]
end
theorem ld73 (W : World) (a : Addr) (u : Value) (h : W.cell? a = some u) : (Instr.loadAt 73 (.pointer (some a))).run Try.prog W = .ok u W := by simp [go_sem, h]
theorem fa78_0 (b o : Nat) (W : World) : (Instr.fieldAt 78 (.pointer (some ⟨b, o, none⟩)) 0).run Try.prog W = .ok (.pointer (some ⟨b, o + 0, none⟩)) W := by simp [go_sem]
theorem fa91_1 (b o : Nat) (W : World) : (Instr.fieldAt 91 (.pointer (some ⟨b, o, none⟩)) 1).run Try.prog W = .ok (.pointer (some ⟨b, o + 2, none⟩)) W := by simp [go_sem]
theorem fa91_3 (b o : Nat) (W : World) : (Instr.fieldAt 91 (.pointer (some ⟨b, o, none⟩)) 3).run Try.prog W = .ok (.pointer (some ⟨b, o + 7, none⟩)) W := by simp [go_sem]
theorem fa58_0 (b o : Nat) (W : World) : (Instr.fieldAt 58 (.pointer (some ⟨b, o, none⟩)) 0).run Try.prog W = .ok (.pointer (some ⟨b, o + 0, none⟩)) W := by simp [go_sem]
theorem cf43 (args : Array Value) (W : World) : Sem.run Try.prog (callFunc 43 args) W = .ok (.enter 43 args) W := by simp [go_sem]
theorem onepath {l : List Oper} {a : Nat} : ∀ k i j, ([a] : List Nat)[k]? = some i → ([a] : List Nat)[k + 1]? = some j → Path l j i := by
  intro k i j hi hj
  simp at hj

/-- A block that was written home. -/
def clP (m : Hm) (x : Pl) : Pl := if m.fa = true then x else { x with dirty := false }
/-- What home's Write answers, and makes of it. -/
def whE (m : Hm) : Int := if m.fa = true then 77 else 0
def Hm.wr (m : Hm) (b : Int) (l : List UInt8) : Hm := if m.fa = true then m.one else m.put b.toNat l
/-- The home behind a call, its log where it was, or in new memory. -/
def HoB [Av] (w : World) (h : Nat) (dv lv : Value) (m : Hm) (W : World) : Prop := ∃ lv' vs', HAt W h dv lv' vs' m ∧ ∀ b, lv'.ownBlock = some b → lv.ownBlock = some b ∨ w.heap.size ≤ b
/-- .. where only its own blocks may have turned. -/
def WH [Av] (w : World) (h : Nat) (dv lv : Value) (m : Hm) (W : World) : Prop := HoB w h dv lv m W ∧ Fr (HB h dv lv) w W

theorem hwrite_any [Av] (w : World) (h : Nat) (dv lv : Value) (vs : List Value) (m : Hm) (b : Int) (hb : 0 ≤ b ∧ b < (m.D.length : Int)) (v : Value) (l : List UInt8) (hv : Rd w v l) (hl : l.length = 384) (hvh : ∀ k, v.ownBlock = some k → k ≠ h) (H : HAt w h dv lv vs m) (hc : m.calls < 1000000000) : Calls Try.prog 68 #[ptr h, .int .i64 b, v] w fun e w' => e = .returned (.int .i64 (whE m)) ∧ WH w h dv lv (m.wr b l) w' := by
  obtain ⟨i, rfl⟩ : ∃ i : Nat, b = (i : Int) := ⟨b.toNat, by omega⟩
  have hi : i < m.D.length := by omega
  unfold whE Hm.wr
  rcases hfa : m.fa with _ | _
  · rw [if_neg (by decide), if_neg (by decide)]
    refine (hwrite_ok w h dv lv vs m i hi v l hv hl hvh hfa H hc).mono ?_
    rintro e w' ⟨rfl, h1, f⟩
    exact ⟨rfl, h1, f⟩
  · rw [if_pos rfl, if_pos rfl]
    refine (hwrite_no w h dv lv vs m i v hfa H hc).mono ?_
    rintro e w' ⟨rfl, h1, f⟩
    exact ⟨rfl, ⟨lv, vs, h1, fun _ e => .inl e⟩, f.mono (fun _ _ e => .inl e)⟩

section
variable (w : World) (p h r u : Nat) (L : List (Int × Nat)) (R : List (Nat × Pl)) (c : Ca) (dv lv : Value) (vs : List Value) (m : Hm)

set_option maxRecDepth 100000 in
theorem whome_any [Av] (R1 R2 : List (Nat × Pl)) (qa : Nat) (qx : Pl) (H : KAt w p h r u L (R1 ++ (qa, qx) :: R2) c) (HH : HAt w h dv lv vs m) (hb : qx.b < (m.D.length : Int)) (hc : m.calls < 1000000000) : Calls Try.prog 50 #[ptr p, ptr qa] w fun e w' => e = .returned (.int .i64 (whE m)) ∧ KAt w' p h r u L (R1 ++ (qa, clP m qx) :: R2) c ∧ HoB w h dv lv (m.wr qx.b qx.P) w' ∧ Fr (fun k => HB h dv lv k ∨ k = qa) w w' := by
  have hq : (qa, qx) ∈ R1 ++ (qa, qx) :: R2 := by simp
  have ok := H.ok _ hq
  have HL := hide ok.len
  obtain ⟨o, n, hn⟩ := H.at hq
  have HN : Hid (∀ W, Fr (fun _ => False) w W → NAt W qa (ptr o) (ptr n) qx) := hide (fun W f => hn.kept f id)
  have HWR : Hid (∀ W v, Fr (fun _ => False) w W → Rd W v qx.P → (∀ b, v.ownBlock = some b → knd W b = 5) → Calls Try.prog 68 #[ptr h, .int .i64 qx.b, v] W fun e w' => e = .returned (.int .i64 (whE m)) ∧ WH w h dv lv (m.wr qx.b qx.P) w' ∧ Fr (HB h dv lv) W w') := hide (fun W v f hv hk => by
    have hW := HH.kept0 f
    refine (hwrite_any W h dv lv vs m qx.b ⟨ok.b, hb⟩ v qx.P hv ok.len (fun k hk' e => ?_) hW hc).mono ?_
    · have := hk k hk'
      rw [e, knd_cells hW.heap] at this
      exact absurd this (by decide)
    · rintro e w' ⟨rfl, ⟨lv', vs', h1, h2⟩, f2⟩
      refine ⟨rfl, ⟨⟨lv', vs', h1, fun b hb => ?_⟩, (f.mono (fun _ _ e => e.elim)).trans f2 (fun _ _ e => e)⟩, f2⟩
      rcases h2 b hb with e | e
      · exact .inl e
      · have := f.size; right; omega)
  have HK := hide H
  have HBL := hide ok
  have HHH := hide HH
  clear H HH hn ok hb hc hq
  have go := True.intro
  go_enter Try.func50, Try.ntmps50
  go_wp2_with fail
  refine wp_nameK ?_
  intro a0 hA
  have h0 : a0.tmps.getD 0 undef = ptr p := by rw [hA]; rfl
  have h1 : a0.tmps.getD 1 undef = ptr qa := by rw [hA]; rfl
  have hsz : a0.tmps.size = 29 := by rw [hA]; rfl
  have hdf : a0.defers = [] := by rw [hA]
  have HA0 := hide hA
  clear hA
  refine wp_region_kinds (HB h dv lv) (by kernel_rfl) (by kernel_rfl) (by decide +kernel) (by rw [hsz]; decide +kernel) [.eq (ptr p), .eq (ptr p), .eq (.pointer (some ⟨p, 0, none⟩)), .eq (.iface 25 (ptr h)), .eq (ptr qa), .eq (ptr qa), .eq (.pointer (some ⟨qa, 2, none⟩)), .eq (.pointer (some ⟨qa, 2, none⟩)), .eq (.int .i64 qx.b), .eq (ptr qa), .eq (ptr qa), .eq (.pointer (some ⟨qa, 7, none⟩)), .eq (.slice (some ⟨qa, 7, none⟩) 384 384), (.st 0 (fun v W => Rd W v qx.P ∧ ∀ b, v.ownBlock = some b → knd W b = 5) (fun v w1 w2 hv f => ⟨hv.1.kept f (fun _ _ h => h), fun b hb => knd_keep (hv.2 b hb) (by decide) f⟩)), .eq (.iface 25 (ptr h)), .eq (.iface 25 (ptr h)), .eq (.int .i64 (whE m)), .eq (.int .i64 (whE m))] [16] (by decide) (by decide) (onepath) (fun k W => match k with | 0 => Fr (fun _ => False) w W | _ => WH w h dv lv (m.wr qx.b qx.P) W) (Fr.refl _ _).drew ?steps ?done
  case steps =>
    refine ⟨?_, ?_⟩
    · intro a' w' k' hb hf hs hc hq hg hd
      obtain rfl : k' = 0 := Nat.le_zero.1 (hq 0 16 rfl (waits (by kernel_rfl))); exact ⟨wantedN rfl, k_val (ptr p) (by decide) hs (x_move rfl ((hb.old 0 (by decide +kernel)).trans h0)) rfl⟩
    refine ⟨?_, ?_⟩
    · intro a' w' k' hb hf hs hc hq hg hd
      obtain rfl : k' = 0 := Nat.le_zero.1 (hq 0 16 rfl (waits (by kernel_rfl))); exact ⟨wantedN rfl, k_val (ptr p) (by decide) hs (x_nilCheck rfl (hd 0 (by kernel_rfl) 6 rfl)) rfl⟩
    refine ⟨?_, ?_⟩
    · intro a' w' k' hb hf hs hc hq hg hd
      obtain rfl : k' = 0 := Nat.le_zero.1 (hq 0 16 rfl (waits (by kernel_rfl))); exact ⟨wantedN rfl, k_val (.pointer (some ⟨p, 0, none⟩)) (by decide) hs (x_field (of := 0) (off := 0) (fa78_0 p 0) rfl (hd 1 (by kernel_rfl) 7 rfl)) rfl⟩
    refine ⟨?_, ?_⟩
    · intro a' w' k' hb hf hs hc hq hg hd
      obtain rfl : k' = 0 := Nat.le_zero.1 (hq 0 16 rfl (waits (by kernel_rfl))); exact ⟨wantedN rfl, k_val (.iface 25 (ptr h)) (by decide) hs (x_load1 ld73 rfl (hd 2 (by kernel_rfl) 8 rfl) (by have := cell_of_heap ((unhide HK).kept0 hs).heap 0; simpa using this)) rfl⟩
    refine ⟨?_, ?_⟩
    · intro a' w' k' hb hf hs hc hq hg hd
      obtain rfl : k' = 0 := Nat.le_zero.1 (hq 0 16 rfl (waits (by kernel_rfl))); exact ⟨wantedN rfl, k_val (ptr qa) (by decide) hs (x_move rfl ((hb.old 1 (by decide +kernel)).trans h1)) rfl⟩
    refine ⟨?_, ?_⟩
    · intro a' w' k' hb hf hs hc hq hg hd
      obtain rfl : k' = 0 := Nat.le_zero.1 (hq 0 16 rfl (waits (by kernel_rfl))); exact ⟨wantedN rfl, k_val (ptr qa) (by decide) hs (x_nilCheck rfl (hd 4 (by kernel_rfl) 10 rfl)) rfl⟩
    refine ⟨?_, ?_⟩
    · intro a' w' k' hb hf hs hc hq hg hd
      obtain rfl : k' = 0 := Nat.le_zero.1 (hq 0 16 rfl (waits (by kernel_rfl))); exact ⟨wantedN rfl, k_val (.pointer (some ⟨qa, 2, none⟩)) (by decide) hs (x_field (of := 0) (off := 2) (fa91_1 qa 0) rfl (hd 5 (by kernel_rfl) 11 rfl)) rfl⟩
    refine ⟨?_, ?_⟩
    · intro a' w' k' hb hf hs hc hq hg hd
      obtain rfl : k' = 0 := Nat.le_zero.1 (hq 0 16 rfl (waits (by kernel_rfl))); exact ⟨wantedN rfl, k_val (.pointer (some ⟨qa, 2, none⟩)) (by decide) hs (x_field (of := 2) (off := 0) (fa58_0 qa 2) rfl (hd 6 (by kernel_rfl) 12 rfl)) rfl⟩
    refine ⟨?_, ?_⟩
    · intro a' w' k' hb hf hs hc hq hg hd
      obtain rfl : k' = 0 := Nat.le_zero.1 (hq 0 16 rfl (waits (by kernel_rfl))); exact ⟨wantedN rfl, k_val (.int .i64 qx.b) (by decide) hs (x_load1 ld3 rfl (hd 7 (by kernel_rfl) 13 rfl) ((unhide HN _ hs).c2)) rfl⟩
    refine ⟨?_, ?_⟩
    · intro a' w' k' hb hf hs hc hq hg hd
      obtain rfl : k' = 0 := Nat.le_zero.1 (hq 0 16 rfl (waits (by kernel_rfl))); exact ⟨wantedN rfl, k_val (ptr qa) (by decide) hs (x_move rfl ((hb.old 1 (by decide +kernel)).trans h1)) rfl⟩
    refine ⟨?_, ?_⟩
    · intro a' w' k' hb hf hs hc hq hg hd
      obtain rfl : k' = 0 := Nat.le_zero.1 (hq 0 16 rfl (waits (by kernel_rfl))); exact ⟨wantedN rfl, k_val (ptr qa) (by decide) hs (x_nilCheck rfl (hd 9 (by kernel_rfl) 15 rfl)) rfl⟩
    refine ⟨?_, ?_⟩
    · intro a' w' k' hb hf hs hc hq hg hd
      obtain rfl : k' = 0 := Nat.le_zero.1 (hq 0 16 rfl (waits (by kernel_rfl))); exact ⟨wantedN rfl, k_val (.pointer (some ⟨qa, 7, none⟩)) (by decide) hs (x_field (of := 0) (off := 7) (fa91_3 qa 0) rfl (hd 10 (by kernel_rfl) 16 rfl)) rfl⟩
    refine ⟨?_, ?_⟩
    · intro a' w' k' hb hf hs hc hq hg hd
      obtain rfl : k' = 0 := Nat.le_zero.1 (hq 0 16 rfl (waits (by kernel_rfl))); exact ⟨wantedN rfl, k_val (.slice (some ⟨qa, 7, none⟩) 384 384) (by decide) hs (x_sl89 rfl (hd 11 (by kernel_rfl) 17 rfl)) rfl⟩
    refine ⟨?_, ?_⟩
    · intro a' w' k' hb hf hs hc hq hg hd
      obtain rfl : k' = 0 := Nat.le_zero.1 (hq 0 16 rfl (waits (by kernel_rfl))); exact ⟨wantedN rfl, k_call 43 _ (by decide) (e_call1 rfl rfl (hd 12 (by kernel_rfl) 18 rfl) cf43) ((clone_any _ (some ⟨qa, 7, none⟩) 384 384 qx.P (rd_node (unhide HN _ hs) (unhide HL)) rfl (by rw [unhide HL]; decide) (unhide HL) (by decide)).mono (by rintro e w7 ⟨ao, cc, rfl, h1, h2, f, -⟩; exact ⟨_, rfl, ⟨Nat.zero_le _, fun _ => ⟨h1, h2⟩⟩, f, Fr.trans hs f (fun _ _ h => h)⟩))⟩
    refine ⟨?_, ?_⟩
    · intro a' w' k' hb hf hs hc hq hg hd
      obtain rfl : k' = 0 := Nat.le_zero.1 (hq 0 16 rfl (waits (by kernel_rfl))); exact ⟨wantedN rfl, k_val (.iface 25 (ptr h)) (by decide) hs (x_nilCheckI rfl (hd 3 (by kernel_rfl) 9 rfl)) rfl⟩
    refine ⟨?_, ?_⟩
    · intro a' w' k' hb hf hs hc hq hg hd
      obtain rfl : k' = 0 := Nat.le_zero.1 (hq 0 16 rfl (waits (by kernel_rfl))); exact ⟨wantedN rfl, k_val (.iface 25 (ptr h)) (by decide) hs (x_move rfl (hd 3 (by kernel_rfl) 9 rfl)) rfl⟩
    refine ⟨?_, ?_⟩
    · intro a' w' k' hb hf hs hc hq hg hd
      obtain rfl := hc 0 rfl; have hh := (hd 13 (by kernel_rfl) 19 rfl); obtain ⟨hh1, hh2⟩ := hh.2 rfl; exact ⟨wantedN rfl, k_callC 68 _ (by decide) (e_inv2 rfl (hd 15 (by kernel_rfl) 21 rfl) (hd 8 (by kernel_rfl) 14 rfl) rfl) ((unhide HWR _ _ hs hh1 hh2).mono (by rintro e w7 ⟨rfl, h1, f⟩; exact ⟨_, rfl, rfl, f, h1⟩))⟩
    refine ⟨?_, ?_⟩
    · intro a' w' k' hb hf hs hc hq hg hd
      exact ⟨wantedN rfl, k_val (.int .i64 (whE m)) (by decide) hs (x_assign rfl (hd 16 (by kernel_rfl) 22 rfl)) rfl⟩
    exact trivial
  case done =>
    intro a' w' hb hf hs hall
    have hdf' : a'.defers = [] := by rw [hb.defers]; exact hdf
    obtain ⟨v19, hv19⟩ : ∃ v, a'.tmps.getD 19 undef = v := ⟨_, rfl⟩
    have hfr := frame_eq (a := a') (vs := [ptr p, ptr qa, a0.tmps.getD 2 undef, a0.tmps.getD 3 undef, a0.tmps.getD 4 undef, .int .i64 (whE m), ptr p, ptr p, .pointer (some ⟨p, 0, none⟩), .iface 25 (ptr h), ptr qa, ptr qa, .pointer (some ⟨qa, 2, none⟩), .pointer (some ⟨qa, 2, none⟩), .int .i64 qx.b, ptr qa, ptr qa, .pointer (some ⟨qa, 7, none⟩), .slice (some ⟨qa, 7, none⟩) 384 384, v19, .iface 25 (ptr h), .iface 25 (ptr h), .int .i64 (whE m), a0.tmps.getD 23 undef, a0.tmps.getD 24 undef, a0.tmps.getD 25 undef, a0.tmps.getD 26 undef, a0.tmps.getD 27 undef, a0.tmps.getD 28 undef]) (by rw [hb.size, hsz]; rfl) hdf' ⟨((hb.old 0 (by decide +kernel)).trans h0), ((hb.old 1 (by decide +kernel)).trans h1), (hb.old 2 (by decide +kernel)), (hb.old 3 (by decide +kernel)), (hb.old 4 (by decide +kernel)), (show a'.tmps.getD 5 undef = .int .i64 (whE m) from hall 17 (by decide) 5 rfl), (show a'.tmps.getD 6 undef = ptr p from hall 0 (by decide) 6 rfl), (show a'.tmps.getD 7 undef = ptr p from hall 1 (by decide) 7 rfl), (show a'.tmps.getD 8 undef = .pointer (some ⟨p, 0, none⟩) from hall 2 (by decide) 8 rfl), (show a'.tmps.getD 9 undef = .iface 25 (ptr h) from hall 3 (by decide) 9 rfl), (show a'.tmps.getD 10 undef = ptr qa from hall 4 (by decide) 10 rfl), (show a'.tmps.getD 11 undef = ptr qa from hall 5 (by decide) 11 rfl), (show a'.tmps.getD 12 undef = .pointer (some ⟨qa, 2, none⟩) from hall 6 (by decide) 12 rfl), (show a'.tmps.getD 13 undef = .pointer (some ⟨qa, 2, none⟩) from hall 7 (by decide) 13 rfl), (show a'.tmps.getD 14 undef = .int .i64 qx.b from hall 8 (by decide) 14 rfl), (show a'.tmps.getD 15 undef = ptr qa from hall 9 (by decide) 15 rfl), (show a'.tmps.getD 16 undef = ptr qa from hall 10 (by decide) 16 rfl), (show a'.tmps.getD 17 undef = .pointer (some ⟨qa, 7, none⟩) from hall 11 (by decide) 17 rfl), (show a'.tmps.getD 18 undef = .slice (some ⟨qa, 7, none⟩) 384 384 from hall 12 (by decide) 18 rfl), hv19, (show a'.tmps.getD 20 undef = .iface 25 (ptr h) from hall 14 (by decide) 20 rfl), (show a'.tmps.getD 21 undef = .iface 25 (ptr h) from hall 15 (by decide) 21 rfl), (show a'.tmps.getD 22 undef = .int .i64 (whE m) from hall 16 (by decide) 22 rfl), (hb.old 23 (by decide +kernel)), (hb.old 24 (by decide +kernel)), (hb.old 25 (by decide +kernel)), (hb.old 26 (by decide +kernel)), (hb.old 27 (by decide +kernel)), (hb.old 28 (by decide +kernel)), trivial⟩
    have HS := hide hs
    clear hall hb hf hs hv19
    subst hfr
    rw [unhide HA0]
    clear HA0 h0 h1 hsz hdf hdf'
    apply_assumption
    have hWH : WH w h dv lv (m.wr qx.b qx.P) w' := unhide HS
    obtain ⟨⟨lv', vs', h1, h2⟩, f⟩ := hWH
    have hK' := (unhide HK).kept f (fun k hk => by
      have := (unhide HHH).knds hk
      rcases this with e | e | e <;> rw [e] <;> decide)
    have HH1 := hide h1
    have HF1 := hide f
    have HL2 := hide h2
    have HK' := hide hK'
    obtain ⟨o', n', hn'⟩ := hK'.at (q := (qa, qx)) (by simp)
    have c6 := hn'.c6
    have z6 := frozen_of_heap hn' 6
    clear HS h1 h2 f hK' hn'
    unfold ptr at *
    rcases hfa : m.fa with _ | _
    · have hE : whE m = 0 := by unfold whE; rw [hfa]; rfl
      have hC : clP m qx = { qx with dirty := false } := by unfold clP; rw [hfa]; rfl
      rw [hE]
      have HE := hide hE
      have HC := hide hC
      clear hE hC hfa
      go_wp2_with fail
      go_ret
      have f2 : Fr (fun k => k = qa) w' (w'.setCell ⟨qa, 6, none⟩ (.bool false)) := (Fr.refl (fun k => k = qa) w').setCell (p := ⟨qa, 6, none⟩) (fun _ => rfl) _
      have ok := unhide HBL
      refine ⟨by rw [unhide HE]; rfl, ?_, ⟨lv', vs', (unhide HH1).kept f2 (fun k hk => ?_), unhide HL2⟩, ((unhide HF1).mono (fun _ _ e => .inl e)).trans f2 (fun _ _ e => .inr e)⟩
      · rw [unhide HC]
        exact (unhide HK').turn rfl ⟨ok.len, ok.b, ok.first, ok.last, ok.pins⟩ (fun o n hn => hn.set6 false) f2
      · have : knd w' k = 91 := (unhide HK').ring.knd (by rw [show k = qa from hk]; simp [adr])
        rw [this]; decide
    · have hE : whE m = 77 := by unfold whE; rw [hfa]; rfl
      have hC : clP m qx = qx := by unfold clP; rw [hfa]; rfl
      rw [hE]
      have HE := hide hE
      have HC := hide hC
      clear hE hC hfa
      go_wp2_with fail
      go_ret
      exact ⟨by rw [unhide HE]; rfl, by rw [unhide HC]; exact unhide HK', ⟨lv', vs', unhide HH1, unhide HL2⟩, (unhide HF1).mono (fun _ _ e => .inl e)⟩
end
end Go.Proofs.Ytdgmlopaeonacaa

namespace Go.Proofs.Ytdgmlopaeonacaa
set_option linter.unusedVariables false
set_option linter.unusedSimpArgs false
open Go.RowKit
set_option linter.unusedVariables false

attribute [local go_sem ↓] Go.wp_at_zero Go.wp_at_succ

theorem Try.info91 : ∃ j, Try.prog.info? 91 = some j ∧ j.size = 391 := by
  have h : (Try.prog.info? 91).map (fun i => i.size) = some 391 := by kernel_rfl
  exact Option.map_eq_some_iff.1 h
theorem neq_same (w : World) (a : Nat) : (binOp .neq 75 (.pointer (some ⟨a, 0, none⟩)) (.pointer (some ⟨a, 0, none⟩))).run Try.prog w = .ok (.bool false) w := by
  obtain ⟨j, hj, -⟩ := Try.info91
  have h : ∀ d : Nat, (Op.equalIn (d + 1) 75 (.pointer (some ⟨a, 0, none⟩)) (.pointer (some ⟨a, 0, none⟩))).run Try.prog w = .ok true w := fun d => by
    simp [Op.equalIn, run_underlying Try.underlying75, sizeOf, typeInfo, hj, run_sameAddr_same]
  simp only [binOp]
  simp [Op.equal, Op.maxDepth, h 9999]
theorem neq_other (w : World) (a b : Nat) (hne : a ≠ b) {o n o' n' : Value} {x y : Pl} (ha : NAt w a o n x) (hb : NAt w b o' n' y) : (binOp .neq 75 (.pointer (some ⟨a, 0, none⟩)) (.pointer (some ⟨b, 0, none⟩))).run Try.prog w = .ok (.bool true) w := by
  obtain ⟨j, hj, hs⟩ := Try.info91
  have h : ∀ d : Nat, (Op.equalIn (d + 1) 75 (.pointer (some ⟨a, 0, none⟩)) (.pointer (some ⟨b, 0, none⟩))).run Try.prog w = .ok false w := fun d => by
    simp [Op.equalIn, run_underlying Try.underlying75, sizeOf, typeInfo, hj, hs, run_sameAddr_other w (a := ⟨a, 0, none⟩) (b := ⟨b, 0, none⟩) (fun e => hne (congrArg Addr.block e)) ha hb]
  simp only [binOp]
  simp [Op.equal, Op.maxDepth, h 9999]

def hd (u : Nat) : List (Nat × Pl) → Nat
  | [] => u
  | q :: _ => q.1

theorem Ring.next {w : World} {u : Nat} {R1 R2 : List (Nat × Pl)} {q : Nat × Pl} (H : Ring w u (R1 ++ q :: R2)) : ∃ o, NAt w q.1 (ptr o) (ptr (hd u R2)) q.2 := by
  obtain ⟨⟨o, n, h1, h2, h3⟩, -⟩ := H
  rw [show adr (R1 ++ q :: R2) = adr R1 ++ q.1 :: adr R2 by simp [adr]] at h2
  have hc := (Chn.app.1 h2).2
  have e : n q.1 = hd u R2 := by
    cases R2 with
    | nil => exact hc
    | cons b B => exact hc.1
  refine ⟨o q.1, ?_⟩
  rw [← e]
  exact h1 q (by simp)
theorem Ring.start {w : World} {u : Nat} {R : List (Nat × Pl)} (H : Ring w u R) : ∃ o, NAt w u (ptr o) (ptr (hd u R)) (zeroP 0) := by
  obtain ⟨⟨o, n, h1, h2, h3⟩, -⟩ := H
  have e : n u = hd u R := by
    cases R with
    | nil => exact h2
    | cons b B => exact h2.1
  refine ⟨o u, ?_⟩
  rw [← e]
  exact h1 (u, zeroP 0) (by simp)

/-- May the block leave? Why is there none? -/
def lvO (c : Ca) (x : Pl) : Bool := !(decide (0 < x.pins)) && (!x.dirty || decide (x.last ≤ c.safe))
def lvE (R : List (Nat × Pl)) : Int := if R.all (fun q => decide (0 < q.2.pins)) then 90 else 91
theorem lvE_app (R : List (Nat × Pl)) (q : Nat × Pl) : lvE (R ++ [q]) = if 0 < q.2.pins then lvE R else 91 := by
  unfold lvE
  simp only [List.all_append, List.all_cons, List.all_nil, Bool.and_true]
  by_cases h : 0 < q.2.pins
  · have e : decide (0 < q.2.pins) = true := by simpa using h
    rw [if_pos h, e, Bool.and_true]
  · have e : decide (0 < q.2.pins) = false := by simpa using h
    rw [if_neg h, e, Bool.and_false]
    rfl

def posOf (R : List (Nat × Pl)) : Value → Nat
  | .pointer (some a) => R.length - (adr R).idxOf a.block
  | _ => 0

theorem idx_skip {a : Nat} {B : List Nat} : ∀ {A : List Nat}, a ∉ A → (A ++ a :: B).idxOf a = A.length
  | [], _ => by simp
  | b :: A, h => by
    have hb : ¬ b = a := fun e => h (by simp [e])
    have := idx_skip (A := A) (B := B) (fun e => h (List.mem_cons_of_mem _ e))
    rw [List.cons_append, List.idxOf_cons, this]
    have e : (b == a) = false := by simpa using hb
    rw [e]
    rfl
theorem idx_mid {u : Nat} {R1 R2 : List (Nat × Pl)} {q : Nat × Pl} (h : (u :: adr (R1 ++ q :: R2)).Nodup) : (adr (R1 ++ q :: R2)).idxOf q.1 = R1.length := by
  have h2 := mid_not h
  rw [show adr (R1 ++ q :: R2) = adr R1 ++ q.1 :: adr R2 by simp [adr], idx_skip (fun e => h2 (by rw [adr_app]; exact List.mem_cons_of_mem _ (List.mem_append_left _ e)))]
  simp [adr]
theorem idx_end {u : Nat} {R : List (Nat × Pl)} (h : (u :: adr R).Nodup) : (adr R).idxOf u = R.length := by
  rw [List.idxOf_eq_length (List.nodup_cons.1 h).1]; simp [adr]

theorem pos_next {u : Nat} {R1 R2 : List (Nat × Pl)} {q : Nat × Pl} (h : (u :: adr (R1 ++ q :: R2)).Nodup) : posOf (R1 ++ q :: R2) (.pointer (some ⟨hd u R2, 0, none⟩)) < posOf (R1 ++ q :: R2) (.pointer (some ⟨q.1, 0, none⟩)) := by
  unfold posOf
  dsimp only
  rw [idx_mid h]
  have hl : (R1 ++ q :: R2).length = R1.length + 1 + R2.length := by simp; omega
  cases R2 with
  | nil =>
    show (R1 ++ [q]).length - (adr (R1 ++ [q])).idxOf u < _
    rw [idx_end h]
    simp
  | cons b B =>
    have e : R1 ++ q :: b :: B = (R1 ++ [q]) ++ b :: B := by simp
    show (R1 ++ q :: b :: B).length - (adr (R1 ++ q :: b :: B)).idxOf b.1 < _
    have h2 := h
    rw [e] at h2
    have := idx_mid h2
    rw [e, this]
    simp
    omega

section
variable (w : World) (p h r u : Nat) (L : List (Int × Nat)) (R : List (Nat × Pl)) (c : Ca)

set_option maxRecDepth 100000 in
set_option maxHeartbeats 1000000 in
theorem leaver_any (H : KAt w p h r u L R c) : Calls Try.prog 64 #[ptr p] w fun e w' => ((∃ R1 q R2, R = R1 ++ q :: R2 ∧ (∀ x ∈ R1, lvO c x.2 = false) ∧ lvO c q.2 = true ∧ e = .returned (.tuple #[ptr q.1, .int .i64 0])) ∨ ((∀ x ∈ R, lvO c x.2 = false) ∧ e = .returned (.tuple #[.pointer none, .int .i64 (lvE R)]))) ∧ ∃ n, w' = w.drewN n := by
  have c3 := cell_of_heap H.heap 3
  simp at c3
  obtain ⟨o0, hu⟩ := H.ring.start
  have u1 := hu.c1
  have HK := hide H
  have hnd := H.ring.nd
  have HND := hide hnd
  obtain ⟨a0, ha0⟩ : ∃ a, a = hd u R := ⟨_, rfl⟩
  rw [← ha0] at u1
  have HA0 := hide ha0
  clear H hnd ha0
  have HU := hide hu
  clear hu
  unfold ptr at *
  go_enter Try.func64, Try.ntmps64
  go_wp2_with fail
  go_loopw [5, 4] (fun x y W => ∃ R1 R2 a, R = R1 ++ R2 ∧ a = hd u R2 ∧ x = .pointer (some ⟨a, 0, none⟩) ∧ y = .int .i64 (lvE R1) ∧ (∀ q ∈ R1, lvO c q.2 = false) ∧ ∃ n, W = w.drewN n) (fun x _ _ => posOf R x)
  case atStart => exact ⟨[], R, a0, rfl, unhide HA0, rfl, rfl, fun q hq => by simp at hq, 0, rfl⟩
  case round =>
    obtain ⟨R1, R2, a, hR, ha, rfl, rfl, hall, nn, rfl⟩ := hrel
    have c3' : (w.drewN nn).cell? ⟨p, 3, none⟩ = some (.pointer (some ⟨u, 0, none⟩)) := by simpa using c3
    have HR := hide hR
    have HA := hide hall
    rcases R2 with _ | ⟨q, R2⟩
    · have ha' : a = u := ha
      subst ha'
      have hsame := neq_same (w.drewN nn) a
      clear hall c3 u1 hR ha
      go_wp2_with fail
      go_ret2
      have e : R = R1 := by have := unhide HR; rwa [List.append_nil] at this
      exact ⟨.inr ⟨by rw [e]; exact unhide HA, by rw [e]; rfl⟩, _, rfl⟩
    · have ha' : a = q.1 := ha
      have hau : ¬ q.1 = u := fun e => by
        have := unhide HND
        rw [hR] at this
        exact (List.nodup_cons.1 this).1 (by rw [← e]; simp [adr])
      obtain ⟨o1, hn⟩ := Ring.next (R1 := R1) (R2 := R2) (q := q) (by rw [← hR]; exact (unhide HK).ring)
      have hnN : NAt (w.drewN nn) q.1 (ptr o1) (ptr (hd u R2)) q.2 := hn.kept (Fr.ofDrewN (S := fun _ => False) w nn) id
      have HM := hide (may_any (w.drewN nn) p h r u L R c q (by rw [hR]; simp) ((unhide HK).kept0 (Fr.ofDrewN w nn)))
      have d1 := hnN.c1
      have d5 := hnN.c5
      have d6 := hnN.c6
      have hE := lvE_app R1 q
      have HIX : Hid (posOf R (.pointer (some ⟨hd u R2, 0, none⟩)) < posOf R (.pointer (some ⟨q.1, 0, none⟩))) := hide (by rw [hR]; exact pos_next (u := u) (R1 := R1) (R2 := R2) (q := q) (by rw [← hR]; exact unhide HND))
      obtain ⟨a2, ha2⟩ : ∃ a, a = hd u R2 := ⟨_, rfl⟩
      rw [← ha2] at d1 HIX
      have HA2 := hide ha2
      have hlv : lvO c q.2 = (!(decide (0 < q.2.pins)) && (!q.2.dirty || decide (q.2.last ≤ c.safe))) := rfl
      subst ha'
      have hneq := neq_other (w.drewN nn) q.1 u hau hnN ((unhide HU).kept (Fr.ofDrewN (S := fun _ => False) w nn) id)
      clear hall c3 u1 hR ha hn hnN ha2
      unfold ptr at *
      obtain ⟨qa, qx⟩ := q
      dsimp only at *
      by_cases hp0 : 0 < qx.pins
      · have b0 : decide (0 < qx.pins) = true := by simpa using hp0
        rw [if_pos hp0] at hE
        rw [b0] at hlv
        have HE := hide hE
        have HLV := hide hlv
        clear hE hlv hp0
        go_wp2_with fail
        go_roundw
        case rel => exact ⟨R1 ++ [(qa, qx)], R2, a2, by rw [unhide HR]; simp, unhide HA2, rfl, by rw [unhide HE], fun x hx => by
            rcases List.mem_append.1 hx with h | h
            · exact unhide HA x h
            · simp at h; subst h; rw [unhide HLV]; rfl, _, rfl⟩
        case measure => exact unhide HIX
      · have b0 : decide (0 < qx.pins) = false := by simpa using hp0
        rw [if_neg hp0] at hE
        rw [b0] at hlv
        have HE := hide hE
        clear hE hp0
        rcases hd0 : qx.dirty with _ | _
        · rw [hd0] at d6 hlv
          have HLV := hide hlv
          clear hlv hd0 HM
          go_wp2_with fail
          go_ret2
          exact ⟨.inl ⟨R1, (qa, qx), R2, unhide HR, unhide HA, by rw [unhide HLV]; rfl, rfl⟩, _, rfl⟩
        · rw [hd0] at d6 hlv
          rcases hm0 : decide (qx.last ≤ c.safe) with _ | _
          · rw [hm0] at hlv HM
            have HLV := hide hlv
            clear hlv hd0 hm0
            go_wp2_with fail
            refine (unhide HM).mono ?_
            rintro e w5 ⟨rfl, n5, rfl⟩
            have d1' : (w.drewN (nn + n5)).cell? ⟨qa, 1, none⟩ = some (.pointer (some ⟨a2, 0, none⟩)) := by simpa using d1
            go_wp2_with fail
            go_roundw
            case rel => exact ⟨R1 ++ [(qa, qx)], R2, a2, by rw [unhide HR]; simp, unhide HA2, rfl, by rw [unhide HE], fun x hx => by
                rcases List.mem_append.1 hx with h | h
                · exact unhide HA x h
                · simp at h; subst h; rw [unhide HLV]; rfl, _, rfl⟩
            case measure => exact unhide HIX
          · rw [hm0] at hlv HM
            have HLV := hide hlv
            clear hlv hd0 hm0
            go_wp2_with fail
            refine (unhide HM).mono ?_
            rintro e w5 ⟨rfl, n5, rfl⟩
            go_wp2_with fail
            go_ret2
            exact ⟨.inl ⟨R1, (qa, qx), R2, unhide HR, unhide HA, by rw [unhide HLV]; rfl, rfl⟩, _, rfl⟩
end
end Go.Proofs.Ytdgmlopaeonacaa

namespace Go.Proofs.Ytdgmlopaeonacaa
set_option linter.unusedVariables false
set_option linter.unusedSimpArgs false
open Go.RowKit
set_option linter.unusedVariables false

attribute [local go_sem ↓] Go.wp_at_zero Go.wp_at_succ

/-- Cache and home behind a call: what they hold; only their blocks may have turned. -/
def Cp [Av] (w w' : World) (p h r u : Nat) (dv lv : Value) (R : List (Nat × Pl)) (c : Ca) (m : Hm) (l : List Pl) : Prop :=
  ∃ lv' vs' L' R', KAt w' p h r u L' R' c ∧ HAt w' h dv lv' vs' m ∧ R'.map Prod.snd = l ∧ (∀ k ∈ adr R', k ∈ adr R ∨ w.heap.size ≤ k) ∧ (∀ b, lv'.ownBlock = some b → lv.ownBlock = some b ∨ w.heap.size ≤ b) ∧ Fr (fun k => HB h dv lv k ∨ KB p r u R k) w w'

section
variable {w w1 w2 : World} {p h r u : Nat} {dv lv : Value} {vs : List Value} {L : List (Int × Nat)} {R : List (Nat × Pl)} {c c1 c2 : Ca} {m m1 m2 : Hm} {l1 l2 : List Pl}

theorem Cp.same [Av] (H : KAt w p h r u L R c) (HH : HAt w h dv lv vs m) {w1 : World} (f : Fr (fun _ => False) w w1) : Cp w w1 p h r u dv lv R c m (R.map Prod.snd) :=
  ⟨lv, vs, L, R, H.kept0 f, HH.kept0 f, rfl, fun _ h => .inl h, fun _ h => .inl h, f.mono (fun _ _ e => e.elim)⟩

theorem Cp.go [Av] (h1 : Cp w w1 p h r u dv lv R c1 m1 l1) (h2 : ∀ lv' vs' L' R', KAt w1 p h r u L' R' c1 → HAt w1 h dv lv' vs' m1 → R'.map Prod.snd = l1 → Cp w1 w2 p h r u dv lv' R' c2 m2 l2) : Cp w w2 p h r u dv lv R c2 m2 l2 := by
  obtain ⟨lv', vs', L', R', k1, k2, k3, k4, k5, f1⟩ := h1
  obtain ⟨lv2, vs2, L2, R2, j1, j2, j3, j4, j5, f2⟩ := h2 lv' vs' L' R' k1 k2 k3
  have hs := f1.size
  refine ⟨lv2, vs2, L2, R2, j1, j2, j3, fun k hk => ?_, fun b hb => ?_, f1.trans f2 (fun k hk e => ?_)⟩
  · rcases j4 k hk with e | e
    · exact k4 k e
    · right; omega
  · rcases j5 b hb with e | e
    · exact k5 b e
    · right; omega
  · rcases e with (e | e | e) | (e | e | e)
    · exact .inl (.inl e)
    · exact .inl (.inr (.inl e))
    · rcases k5 k e with e | e
      · exact .inl (.inr (.inr e))
      · omega
    · exact .inr (.inl e)
    · exact .inr (.inr (.inl e))
    · rcases List.mem_cons.1 e with e | e
      · exact .inr (.inr (.inr (by rw [e]; simp)))
      · rcases k4 k e with e | e
        · exact .inr (.inr (.inr (List.mem_cons_of_mem _ e)))
        · omega
end

/-- Making room, plainly: the answer, what stays, the home. -/
def lvE' (l : List Pl) : Int := if l.all (fun x => decide (0 < x.pins)) then 90 else 91
def rmR (c : Ca) (m : Hm) (l : List Pl) : Int × List Pl × Hm :=
  if l.length < c.places then (0, l, m)
  else match l.findIdx? (lvO c) with
    | none => (lvE' l, l, m)
    | some i => match l[i]? with
      | none => (0, l, m)
      | some x => if x.dirty = true then (if m.fa = true then (77, l, m.one) else (0, l.eraseIdx i, m.put x.b.toNat x.P)) else (0, l.eraseIdx i, m)

theorem lvE'_map (R : List (Nat × Pl)) : lvE' (R.map Prod.snd) = lvE R := by unfold lvE' lvE; rw [List.all_map]; rfl
theorem find_some {c : Ca} {R1 R2 : List (Nat × Pl)} {q : Nat × Pl} (h1 : ∀ x ∈ R1, lvO c x.2 = false) (h2 : lvO c q.2 = true) : ((R1 ++ q :: R2).map Prod.snd).findIdx? (lvO c) = some R1.length ∧ ((R1 ++ q :: R2).map Prod.snd)[R1.length]? = some q.2 ∧ ((R1 ++ q :: R2).map Prod.snd).eraseIdx R1.length = (R1 ++ R2).map Prod.snd := by
  refine ⟨?_, ?_, ?_⟩
  · rw [List.findIdx?_eq_some_iff_getElem]
    refine ⟨by simp, by simpa using h2, fun j hj => ?_⟩
    have : ((R1 ++ q :: R2).map Prod.snd)[j]'(by simp; omega) = (R1[j]).2 := by simp [hj]
    rw [this, h1 _ (List.getElem_mem hj)]
    decide
  · simp
  · simp [List.eraseIdx_append_of_length_le]
theorem find_none {c : Ca} {R : List (Nat × Pl)} (h : ∀ x ∈ R, lvO c x.2 = false) : (R.map Prod.snd).findIdx? (lvO c) = none := by
  rw [List.findIdx?_eq_none_iff]
  intro x hx
  obtain ⟨q, hq, rfl⟩ := List.mem_map.1 hx
  exact h q hq

section
variable (w : World) (p h r u : Nat) (L : List (Int × Nat)) (R : List (Nat × Pl)) (c : Ca) (dv lv : Value) (vs : List Value) (m : Hm)

set_option maxRecDepth 100000 in
set_option maxHeartbeats 1000000 in
theorem makeRoom_any [Av] (H : KAt w p h r u L R c) (HH : HAt w h dv lv vs m) (hD : ∀ q ∈ R, q.2.b < (m.D.length : Int)) (hc : m.calls < 1000000000) : Calls Try.prog 45 #[ptr p] w fun e w' => e = .returned (.int .i64 (rmR c m (R.map Prod.snd)).1) ∧ Cp w w' p h r u dv lv R c (rmR c m (R.map Prod.snd)).2.2 (rmR c m (R.map Prod.snd)).2.1 := by
  have c1 := cell_of_heap H.heap 1
  have c2 := cell_of_heap H.heap 2
  simp at c1 c2
  have hlen := H.len
  have hml := fun n => run_len_map (H.mp.kept (Fr.ofDrewN (S := fun _ => False) w n) id)
  have HK := hide H
  have HHH := hide HH
  have HD := hide hD
  have hnum := H.num
  have HC := hide hc
  clear H HH hD hc
  unfold ptr at *
  by_cases hlt : R.length < c.places
  · have e : rmR c m (R.map Prod.snd) = (0, R.map Prod.snd, m) := by unfold rmR; rw [if_pos (by simpa using hlt)]
    rw [e]
    rw [hlen] at hml
    have bl : decide (R.length < c.places) = true := by simpa using hlt
    clear e hlen hnum hlt
    go_enter Try.func45, Try.ntmps45
    go_wp2_with fail
    go_quiet (fail)
    go_wp2_with fail
    go_ret
    exact ⟨rfl, Cp.same (unhide HK) (unhide HHH) (Fr.ofDrewN _ _)⟩
  · have hge : ¬ (R.map Prod.snd).length < c.places := by simpa using hlt
    rw [hlen] at hml
    have bl : decide (R.length < c.places) = false := by simpa using hlt
    have HLV := hide (fun n => leaver_any (w.drewN n) p h r u L R c ((unhide HK).kept0 (Fr.ofDrewN w n)))
    have HGE := hide hge
    clear hlen hnum hlt hge
    unfold ptr at HLV
    go_enter Try.func45, Try.ntmps45
    go_wp2_with fail
    go_quiet (fail)
    go_wp2_with fail
    refine (unhide HLV _).mono ?_
    rintro e w2 ⟨hres, n2, rfl⟩
    rcases hres with ⟨R1, q, R2, hR, hno, hyes, rfl⟩ | ⟨hno, rfl⟩
    · obtain ⟨e1, e2, e3⟩ := find_some (R2 := R2) hno hyes
      obtain ⟨qa, qx⟩ := q
      subst hR
      dsimp only at e2
      have hqb : qx.b < (m.D.length : Int) := unhide HD (qa, qx) (by simp)
      have fd : Fr (fun _ => False) w (w.drewN (nq + n2)) := Fr.ofDrewN _ _
      have hKd := (unhide HK).kept0 fd
      have hHd := (unhide HHH).kept0 fd
      obtain ⟨on, nn, hn⟩ := hKd.at (q := (qa, qx)) (by simp)
      have d6 := hn.c6
      have FD := hide fd
      have HKd := hide hKd
      have HHd := hide hHd
      have HQB := hide hqb
      clear hKd hHd hn fd hqb hno hyes HLV
      dsimp only at d6 ⊢
      rcases hd0 : qx.dirty with _ | _
      · have e : rmR c m ((R1 ++ (qa, qx) :: R2).map Prod.snd) = (0, (R1 ++ R2).map Prod.snd, m) := by
          unfold rmR; rw [if_neg (unhide HGE), e1]; dsimp only; rw [e2, e3]; dsimp only; rw [hd0]; rfl
        have HE := hide e
        rw [hd0] at d6
        have HFG := hide (forget_any (w.drewN (nq + n2)) p h r u L c R1 R2 (qa, qx) (unhide HKd))
        unfold ptr at HFG
        clear e e1 e2 e3 hd0
        go_wp2_with fail
        refine (unhide HFG).mono ?_
        rintro e w5 ⟨rfl, ⟨L', hK5⟩, f5⟩
        have hH5 := (unhide HHd).kept f5 (fun k hk => by
          rcases (unhide HKd).knds hk with e | e | e <;> rw [e] <;> decide)
        have HK5 := hide hK5
        have HH5 := hide hH5
        have F5 := hide f5
        clear hK5 hH5 f5 HFG
        go_wp2_with fail
        go_ret
        rw [unhide HE]
        refine ⟨rfl, lv, vs, L', R1 ++ R2, unhide HK5, unhide HH5, rfl, fun k hk => ?_, fun b hb => .inl hb, ((unhide FD).mono (fun _ _ e => e.elim)).trans (unhide F5) (fun k _ e => .inr e)⟩
        simp [adr] at hk ⊢
        rcases hk with h | h
        · exact .inl (.inl h)
        · exact .inl (.inr (.inr h))
      · have hcalls := unhide HC
        have HWH := hide (whome_any (w.drewN (nq + n2)) p h r u L c dv lv vs m R1 R2 qa qx (unhide HKd) (unhide HHd) (unhide HQB) hcalls)
        unfold ptr at HWH
        rw [hd0] at d6
        rcases hfa : m.fa with _ | _
        · have e : rmR c m ((R1 ++ (qa, qx) :: R2).map Prod.snd) = (0, (R1 ++ R2).map Prod.snd, m.put qx.b.toNat qx.P) := by
            unfold rmR; rw [if_neg (unhide HGE), e1]; dsimp only; rw [e2, e3]; dsimp only; rw [hd0, if_pos rfl, hfa]; rfl
          have hE : whE m = 0 := by unfold whE; rw [hfa]; rfl
          have hM : m.wr qx.b qx.P = m.put qx.b.toNat qx.P := by unfold Hm.wr; rw [hfa]; rfl
          rw [hE, hM] at HWH
          have HE := hide e
          clear e e1 e2 e3 hd0 hfa hE hM hcalls
          go_wp2_with fail
          refine (unhide HWH).mono ?_
          rintro e w5 ⟨rfl, hK5, ⟨lv5, vs5, hH5, hl5⟩, f5⟩
          have HFG := hide (forget_any w5 p h r u L c R1 R2 (qa, clP m qx) hK5)
          unfold ptr at HFG
          have HK5 := hide hK5
          have HH5 := hide hH5
          have HL5 := hide hl5
          have F5 := hide f5
          clear hK5 hH5 hl5 f5 HWH
          go_wp2_with fail
          refine (unhide HFG).mono ?_
          rintro e w6 ⟨rfl, ⟨L', hK6⟩, f6⟩
          have hH6 := (unhide HH5).kept f6 (fun k hk => by
            rcases (unhide HK5).knds hk with e | e | e <;> rw [e] <;> decide)
          have HK6 := hide hK6
          have HH6 := hide hH6
          have F6 := hide f6
          clear hK6 hH6 f6 HFG
          go_wp2_with fail
          go_ret
          rw [unhide HE]
          refine ⟨rfl, lv5, vs5, L', R1 ++ R2, unhide HK6, unhide HH6, rfl, fun k hk => ?_, unhide HL5, (((unhide FD).mono (fun _ _ e => e.elim)).trans (unhide F5) (fun k _ e => ?_)).trans (unhide F6) (fun k _ e => ?_)⟩
          · simp [adr] at hk ⊢
            rcases hk with h | h
            · exact .inl (.inl h)
            · exact .inl (.inr (.inr h))
          · rcases e with e | e
            · exact .inl e
            · exact .inr (.inr (.inr (by rw [e]; simp [adr])))
          · have hadr : adr (R1 ++ (qa, clP m qx) :: R2) = adr (R1 ++ (qa, qx) :: R2) := by simp [adr]
            rcases e with e | e | e
            · exact .inr (.inl e)
            · exact .inr (.inr (.inl e))
            · rw [hadr] at e; exact .inr (.inr (.inr e))
        · have e : rmR c m ((R1 ++ (qa, qx) :: R2).map Prod.snd) = (77, (R1 ++ (qa, qx) :: R2).map Prod.snd, m.one) := by
            unfold rmR; rw [if_neg (unhide HGE), e1]; dsimp only; rw [e2]; dsimp only; rw [hd0, if_pos rfl, hfa]; rfl
          have hE : whE m = 77 := by unfold whE; rw [hfa]; rfl
          have hM : m.wr qx.b qx.P = m.one := by unfold Hm.wr; rw [hfa]; rfl
          have hC : clP m qx = qx := by unfold clP; rw [hfa]; rfl
          rw [hE, hM, hC] at HWH
          have HE := hide e
          clear e e1 e2 e3 hd0 hfa hE hM hC hcalls
          go_wp2_with fail
          refine (unhide HWH).mono ?_
          rintro e w5 ⟨rfl, hK5, ⟨lv5, vs5, hH5, hl5⟩, f5⟩
          have HK5 := hide hK5
          have HH5 := hide hH5
          have HL5 := hide hl5
          have F5 := hide f5
          clear hK5 hH5 hl5 f5 HWH
          go_wp2_with fail
          go_ret
          rw [unhide HE]
          refine ⟨rfl, lv5, vs5, L, _, unhide HK5, unhide HH5, rfl, fun k hk => .inl hk, unhide HL5, ((unhide FD).mono (fun _ _ e => e.elim)).trans (unhide F5) (fun k _ e => ?_)⟩
          rcases e with e | e
          · exact .inl e
          · exact .inr (.inr (.inr (by rw [e]; simp [adr])))
    · have e : rmR c m (R.map Prod.snd) = (lvE R, R.map Prod.snd, m) := by
        unfold rmR; rw [if_neg (unhide HGE), find_none hno]; simp only [lvE'_map]
      have hv : (lvE R = 90 ∨ lvE R = 91) := by unfold lvE; split <;> simp
      have HE := hide e
      have bne : (lvE R != 0) = true := by rcases hv with h | h <;> rw [h] <;> rfl
      generalize lvE R = vE at *
      clear hv hno e HLV
      go_wp2_with fail
      go_ret
      rw [unhide HE]
      exact ⟨rfl, Cp.same (unhide HK) (unhide HHH) (Fr.ofDrewN _ _)⟩
end
end Go.Proofs.Ytdgmlopaeonacaa
