/-
  The cache's Clone, writeHome.
-/
import Derived.Test.YtdgmlopaeonacaaA9
namespace Go.Proofs.Ytdgmlopaeonacaa
open Go.RowKit
set_option linter.unusedVariables false

attribute [local go_sem ↓] Go.wp_at_zero Go.wp_at_succ

theorem knd_keep {w w' : World} {b t : Nat} (h : knd w b = t) (ht : t ≠ 1001) (f : Fr (fun _ => False) w w') : knd w' b = t := by
  have hb : b < w.heap.size := by
    rcases Nat.lt_or_ge b w.heap.size with h' | h'
    · exact h'
    · unfold knd at h
      rw [Array.getElem?_eq_none h'] at h
      exact absurd h.symm ht
  unfold knd at *
  rw [f.block b hb id]
  exact h

set_option maxRecDepth 100000 in
theorem clone_any (w : World) (ao : Option Addr) (n cap : Nat) (l : List UInt8) (hv : Rd w (.slice ao n cap) l) (hn : (ao.isSome = true)) (h0 : 0 < l.length) (hl : l.length = n) (hn5 : n ≤ 100000) : Calls Try.prog 43 #[.slice ao n cap] w fun e w' => ∃ a c, e = .returned (.slice a n c) ∧ Rd w' (.slice a n c) l ∧ (∀ b, (Value.slice a n c).ownBlock = some b → knd w' b = 5) ∧ Fr (fun _ => False) w w' ∧ ∀ b, (Value.slice a n c).ownBlock = some b → w.heap.size ≤ b := by
  obtain ⟨vb, vo, rfl, -, hvc, hvm, -⟩ := hv.lits h0
  obtain ⟨inf, hi0, hz0, hz1, hz2⟩ := info_parts Try.info5
  have hlm : n ≤ maxLen := by omega
  have hby : n ≤ 140737488355328 := by omega
  have HV := hide hv
  have HL := hide hl
  have HM := hide hlm
  have HBY := hide hby
  have heq : (binOp .eql 37 (.slice (some ⟨vb, vo, none⟩) n cap) (.slice none 0 0)).run Try.prog w = .ok (.bool false) w := Lib.run_eql_slice_nil w 37 5 _ _ _ _ _ Try.underlying37
  clear hv hl h0 hvc hvm hlm hby
  go_enter Try.func43, Try.ntmps43
  go_wp2_with (at_builtin; refine wpList_app rfl (.tmp 5) (.tmp 6) 37 rfl 5 inf _ 1 1 Try.underlying37 hi0 hz0 hz1 hz2 rfl (by decide) (.slice (some ⟨w.heap.size, 0, none⟩) 0 0) 0 [] rfl (.slice (some ⟨vb, vo, none⟩) n cap) rfl n (bvs l) (owns_new (heap_alloc_new _ _)) (by have := ((unhide HV).kept ((Fr.refl (fun _ => False) w).alloc (.cells #[] 5)) (fun _ _ h => h)).sr; rw [unhide HL] at this; exact this) (bvs_one _) (by rw [Nat.zero_add, Nat.mul_one]; exact unhide HBY) (by rw [Nat.zero_add]; exact unhide HM) ?_)
  intro ao c w2 o2 g2 p2
  have hR2 : Rd w2 (.slice ao n c) l := by
    refine Rd.of_owns (base := 0) ?_
    rw [unhide HL]
    exact o2
  have hnew : ∀ b, (Value.slice ao n c).ownBlock = some b → w.heap.size ≤ b := fun b hb => by
    rcases p2 with e | ⟨k, e, hk⟩
    · rw [e] at hb; simp [Value.ownBlock] at hb; omega
    · rw [e] at hb; simp at hb; omega
  have HR2 := hide hR2
  have HP2 := hide hnew
  have HK2 := hide (fun b (hb : (Value.slice ao n c).ownBlock = some b) => knd_owns o2 hb)
  have F2 := hide (((Fr.refl (fun _ => False) w).alloc (.cells #[] 5)).grown g2 (fun k hk e => by simp [Value.ownBlock] at e; omega))
  clear o2 g2 p2 hR2 hnew
  go_wp2_with fail
  go_ret
  exact ⟨ao, c, rfl, unhide HR2, unhide HK2, unhide F2, unhide HP2⟩

/-- A block's bytes can be read. -/
theorem rd_node {w : World} {a : Nat} {o n : Value} {x : Pl} (h : NAt w a o n x) (hx : x.P.length = 384) : Rd w (.slice (some ⟨a, 7, none⟩) 384 384) x.P := by
  refine Rd.lit hx (Nat.le_refl _) (by decide) fun j hj => ?_
  rw [cell_of_heap h]
  have : (nodeC o n x).toArray[7 + j]? = (bvs x.P)[j]? := by
    rw [show 7 + j = j + 7 by omega]
    simp [nodeC]
  rw [this, bvs_get _ j hj]

section
variable {ρ : Operand → Value} {o : Oper} {w : World}
theorem x_nilCheckI {x : Operand} {t : TypeId} {u : Value} (ho : o.op = .nilCheck x) (hx : ρ x = .iface t u) : (execOp ρ o).run Try.prog w = .ok (.value (.iface t u)) w := by
  simp [execOp, ho, hx, go_sem]
theorem mWrite (h : Nat) (w : World) : (method 255 25 (.pointer (some ⟨h, 0, none⟩)) "Write").run Try.prog w = .ok (68, .pointer (some ⟨h, 0, none⟩)) w := by kernel_rfl
theorem e_inv2 {x y z : Operand} {t : Array TypeId} {h : Nat} {a b : Value} (ho : o.op = .call { callee := .invoke x "Write", args := #[y, z], argTypes := t }) (hx : ρ x = .iface 25 (ptr h)) (hy : ρ y = a) (hz : ρ z = b) : (execOp ρ o).run Try.prog w = .ok (.enter 68 #[ptr h, a, b]) w := by
  unfold ptr at *
  simp [execOp, ho, hx, hy, hz, go_sem, mWrite]
theorem x_sl89 {x : Operand} {a : Nat} (ho : o.op = .slice 89 x none none none) (hx : ρ x = .pointer (some ⟨a, 7, none⟩)) : (execOp ρ o).run Try.prog w = .ok (.value (.slice (some ⟨a, 7, none⟩) 384 384)) w := by
  simp [execOp, ho, hx, go_sem]
end
theorem ld73 (W : World) (a : Addr) (u : Value) (h : W.cell? a = some u) : (Instr.loadAt 73 (.pointer (some a))).run Try.prog W = .ok u W := by simp [go_sem, h]
theorem fa78_0 (b o : Nat) (W : World) : (Instr.fieldAt 78 (.pointer (some ⟨b, o, none⟩)) 0).run Try.prog W = .ok (.pointer (some ⟨b, o + 0, none⟩)) W := by simp [go_sem]
theorem fa91_1 (b o : Nat) (W : World) : (Instr.fieldAt 91 (.pointer (some ⟨b, o, none⟩)) 1).run Try.prog W = .ok (.pointer (some ⟨b, o + 2, none⟩)) W := by simp [go_sem]
theorem fa91_3 (b o : Nat) (W : World) : (Instr.fieldAt 91 (.pointer (some ⟨b, o, none⟩)) 3).run Try.prog W = .ok (.pointer (some ⟨b, o + 7, none⟩)) W := by simp [go_sem]
theorem fa58_0 (b o : Nat) (W : World) : (Instr.fieldAt 58 (.pointer (some ⟨b, o, none⟩)) 0).run Try.prog W = .ok (.pointer (some ⟨b, o + 0, none⟩)) W := by simp [go_sem]
theorem cf43 (args : Array Value) (W : World) : Sem.run Try.prog (callFunc 43 args) W = .ok (.enter 43 args) W := by simp [go_sem]
theorem onepath {l : List Oper} {a : Nat} : ∀ k i j, ([a] : List Nat)[k]? = some i → ([a] : List Nat)[k + 1]? = some j → Path l j i := by
  intro k i j hi hj
  simp at hj

/-- A block that was written home. -/
def clP (m : Hm) (x : Pl) : Pl := if m.fa = true then x else { x with dirty := false }
/-- What home's Write answers, and makes of it. -/
def whE (m : Hm) : Int := if m.fa = true then 77 else 0
def Hm.wr (m : Hm) (b : Int) (l : List UInt8) : Hm := if m.fa = true then m.one else m.put b.toNat l
/-- The home behind a call, its log where it was, or in new memory. -/
def HoB (w : World) (h : Nat) (dv lv : Value) (m : Hm) (W : World) : Prop := ∃ lv' vs', HAt W h dv lv' vs' m ∧ ∀ b, lv'.ownBlock = some b → lv.ownBlock = some b ∨ w.heap.size ≤ b
/-- .. where only its own blocks may have turned. -/
def WH (w : World) (h : Nat) (dv lv : Value) (m : Hm) (W : World) : Prop := HoB w h dv lv m W ∧ Fr (HB h dv lv) w W

theorem hwrite_any (w : World) (h : Nat) (dv lv : Value) (vs : List Value) (m : Hm) (b : Int) (hb : 0 ≤ b ∧ b < (m.D.length : Int)) (v : Value) (l : List UInt8) (hv : Rd w v l) (hl : l.length = 384) (hvh : ∀ k, v.ownBlock = some k → k ≠ h) (H : HAt w h dv lv vs m) (hc : m.calls < 1000000000) : Calls Try.prog 68 #[ptr h, .int .i64 b, v] w fun e w' => e = .returned (.int .i64 (whE m)) ∧ WH w h dv lv (m.wr b l) w' := by
  obtain ⟨i, rfl⟩ : ∃ i : Nat, b = (i : Int) := ⟨b.toNat, by omega⟩
  have hi : i < m.D.length := by omega
  unfold whE Hm.wr
  rcases hfa : m.fa with _ | _
  · rw [if_neg (by decide), if_neg (by decide)]
    refine (hwrite_ok w h dv lv vs m i hi v l hv hl hvh hfa H hc).mono ?_
    rintro e w' ⟨rfl, h1, f⟩
    exact ⟨rfl, h1, f⟩
  · rw [if_pos rfl, if_pos rfl]
    refine (hwrite_no w h dv lv vs m i v hfa H hc).mono ?_
    rintro e w' ⟨rfl, h1, f⟩
    exact ⟨rfl, ⟨lv, vs, h1, fun _ e => .inl e⟩, f.mono (fun _ _ e => .inl e)⟩

section
variable (w : World) (p h r u : Nat) (L : List (Int × Nat)) (R : List (Nat × Pl)) (c : Ca) (dv lv : Value) (vs : List Value) (m : Hm)

set_option maxRecDepth 100000 in
theorem whome_any (R1 R2 : List (Nat × Pl)) (qa : Nat) (qx : Pl) (H : KAt w p h r u L (R1 ++ (qa, qx) :: R2) c) (HH : HAt w h dv lv vs m) (hb : qx.b < (m.D.length : Int)) (hc : m.calls < 1000000000) : Calls Try.prog 50 #[ptr p, ptr qa] w fun e w' => e = .returned (.int .i64 (whE m)) ∧ KAt w' p h r u L (R1 ++ (qa, clP m qx) :: R2) c ∧ HoB w h dv lv (m.wr qx.b qx.P) w' ∧ Fr (fun k => HB h dv lv k ∨ k = qa) w w' := by
  have hq : (qa, qx) ∈ R1 ++ (qa, qx) :: R2 := by simp
  have ok := H.ok _ hq
  have HL := hide ok.len
  obtain ⟨o, n, hn⟩ := H.at hq
  have HN : Hid (∀ W, Fr (fun _ => False) w W → NAt W qa (ptr o) (ptr n) qx) := hide (fun W f => hn.kept f id)
  have HWR : Hid (∀ W v, Fr (fun _ => False) w W → Rd W v qx.P → (∀ b, v.ownBlock = some b → knd W b = 5) → Calls Try.prog 68 #[ptr h, .int .i64 qx.b, v] W fun e w' => e = .returned (.int .i64 (whE m)) ∧ WH w h dv lv (m.wr qx.b qx.P) w' ∧ Fr (HB h dv lv) W w') := hide (fun W v f hv hk => by
    have hW := HH.kept0 f
    refine (hwrite_any W h dv lv vs m qx.b ⟨ok.b, hb⟩ v qx.P hv ok.len (fun k hk' e => ?_) hW hc).mono ?_
    · have := hk k hk'
      rw [e, knd_cells hW.heap] at this
      exact absurd this (by decide)
    · rintro e w' ⟨rfl, ⟨lv', vs', h1, h2⟩, f2⟩
      refine ⟨rfl, ⟨⟨lv', vs', h1, fun b hb => ?_⟩, (f.mono (fun _ _ e => e.elim)).trans f2 (fun _ _ e => e)⟩, f2⟩
      rcases h2 b hb with e | e
      · exact .inl e
      · have := f.size; right; omega)
  have HK := hide H
  have HBL := hide ok
  have HHH := hide HH
  clear H HH hn ok hb hc hq
  have go := True.intro
  go_enter Try.func50, Try.ntmps50
  go_wp2_with fail
  refine wp_nameK ?_
  intro a0 hA
  have h0 : a0.tmps.getD 0 undef = ptr p := by rw [hA]; rfl
  have h1 : a0.tmps.getD 1 undef = ptr qa := by rw [hA]; rfl
  have hsz : a0.tmps.size = 29 := by rw [hA]; rfl
  have hdf : a0.defers = [] := by rw [hA]
  have HA0 := hide hA
  clear hA
  refine wp_region_kinds (HB h dv lv) (by kernel_rfl) (by kernel_rfl) (by decide +kernel) (by rw [hsz]; decide +kernel) [.eq (ptr p), .eq (ptr p), .eq (.pointer (some ⟨p, 0, none⟩)), .eq (.iface 25 (ptr h)), .eq (ptr qa), .eq (ptr qa), .eq (.pointer (some ⟨qa, 2, none⟩)), .eq (.pointer (some ⟨qa, 2, none⟩)), .eq (.int .i64 qx.b), .eq (ptr qa), .eq (ptr qa), .eq (.pointer (some ⟨qa, 7, none⟩)), .eq (.slice (some ⟨qa, 7, none⟩) 384 384), (.st 0 (fun v W => Rd W v qx.P ∧ ∀ b, v.ownBlock = some b → knd W b = 5) (fun v w1 w2 hv f => ⟨hv.1.kept f (fun _ _ h => h), fun b hb => knd_keep (hv.2 b hb) (by decide) f⟩)), .eq (.iface 25 (ptr h)), .eq (.iface 25 (ptr h)), .eq (.int .i64 (whE m)), .eq (.int .i64 (whE m))] [16] (by decide) (by decide) (onepath) (fun k W => match k with | 0 => Fr (fun _ => False) w W | _ => WH w h dv lv (m.wr qx.b qx.P) W) (Fr.refl _ _).drew ?steps ?done
  case steps =>
    refine ⟨?_, ?_⟩
    · intro a' w' k' hb hf hs hc hq hg hd
      obtain rfl : k' = 0 := Nat.le_zero.1 (hq 0 16 rfl (waits (by kernel_rfl))); exact ⟨wantedN rfl, k_val (ptr p) (by decide) hs (x_move rfl ((hb.old 0 (by decide +kernel)).trans h0)) rfl⟩
    refine ⟨?_, ?_⟩
    · intro a' w' k' hb hf hs hc hq hg hd
      obtain rfl : k' = 0 := Nat.le_zero.1 (hq 0 16 rfl (waits (by kernel_rfl))); exact ⟨wantedN rfl, k_val (ptr p) (by decide) hs (x_nilCheck rfl (hd 0 (by kernel_rfl) 6 rfl)) rfl⟩
    refine ⟨?_, ?_⟩
    · intro a' w' k' hb hf hs hc hq hg hd
      obtain rfl : k' = 0 := Nat.le_zero.1 (hq 0 16 rfl (waits (by kernel_rfl))); exact ⟨wantedN rfl, k_val (.pointer (some ⟨p, 0, none⟩)) (by decide) hs (x_field (of := 0) (off := 0) (fa78_0 p 0) rfl (hd 1 (by kernel_rfl) 7 rfl)) rfl⟩
    refine ⟨?_, ?_⟩
    · intro a' w' k' hb hf hs hc hq hg hd
      obtain rfl : k' = 0 := Nat.le_zero.1 (hq 0 16 rfl (waits (by kernel_rfl))); exact ⟨wantedN rfl, k_val (.iface 25 (ptr h)) (by decide) hs (x_load1 ld73 rfl (hd 2 (by kernel_rfl) 8 rfl) (by have := cell_of_heap ((unhide HK).kept0 hs).heap 0; simpa using this)) rfl⟩
    refine ⟨?_, ?_⟩
    · intro a' w' k' hb hf hs hc hq hg hd
      obtain rfl : k' = 0 := Nat.le_zero.1 (hq 0 16 rfl (waits (by kernel_rfl))); exact ⟨wantedN rfl, k_val (ptr qa) (by decide) hs (x_move rfl ((hb.old 1 (by decide +kernel)).trans h1)) rfl⟩
    refine ⟨?_, ?_⟩
    · intro a' w' k' hb hf hs hc hq hg hd
      obtain rfl : k' = 0 := Nat.le_zero.1 (hq 0 16 rfl (waits (by kernel_rfl))); exact ⟨wantedN rfl, k_val (ptr qa) (by decide) hs (x_nilCheck rfl (hd 4 (by kernel_rfl) 10 rfl)) rfl⟩
    refine ⟨?_, ?_⟩
    · intro a' w' k' hb hf hs hc hq hg hd
      obtain rfl : k' = 0 := Nat.le_zero.1 (hq 0 16 rfl (waits (by kernel_rfl))); exact ⟨wantedN rfl, k_val (.pointer (some ⟨qa, 2, none⟩)) (by decide) hs (x_field (of := 0) (off := 2) (fa91_1 qa 0) rfl (hd 5 (by kernel_rfl) 11 rfl)) rfl⟩
    refine ⟨?_, ?_⟩
    · intro a' w' k' hb hf hs hc hq hg hd
      obtain rfl : k' = 0 := Nat.le_zero.1 (hq 0 16 rfl (waits (by kernel_rfl))); exact ⟨wantedN rfl, k_val (.pointer (some ⟨qa, 2, none⟩)) (by decide) hs (x_field (of := 2) (off := 0) (fa58_0 qa 2) rfl (hd 6 (by kernel_rfl) 12 rfl)) rfl⟩
    refine ⟨?_, ?_⟩
    · intro a' w' k' hb hf hs hc hq hg hd
      obtain rfl : k' = 0 := Nat.le_zero.1 (hq 0 16 rfl (waits (by kernel_rfl))); exact ⟨wantedN rfl, k_val (.int .i64 qx.b) (by decide) hs (x_load1 ld3 rfl (hd 7 (by kernel_rfl) 13 rfl) ((unhide HN _ hs).c2)) rfl⟩
    refine ⟨?_, ?_⟩
    · intro a' w' k' hb hf hs hc hq hg hd
      obtain rfl : k' = 0 := Nat.le_zero.1 (hq 0 16 rfl (waits (by kernel_rfl))); exact ⟨wantedN rfl, k_val (ptr qa) (by decide) hs (x_move rfl ((hb.old 1 (by decide +kernel)).trans h1)) rfl⟩
    refine ⟨?_, ?_⟩
    · intro a' w' k' hb hf hs hc hq hg hd
      obtain rfl : k' = 0 := Nat.le_zero.1 (hq 0 16 rfl (waits (by kernel_rfl))); exact ⟨wantedN rfl, k_val (ptr qa) (by decide) hs (x_nilCheck rfl (hd 9 (by kernel_rfl) 15 rfl)) rfl⟩
    refine ⟨?_, ?_⟩
    · intro a' w' k' hb hf hs hc hq hg hd
      obtain rfl : k' = 0 := Nat.le_zero.1 (hq 0 16 rfl (waits (by kernel_rfl))); exact ⟨wantedN rfl, k_val (.pointer (some ⟨qa, 7, none⟩)) (by decide) hs (x_field (of := 0) (off := 7) (fa91_3 qa 0) rfl (hd 10 (by kernel_rfl) 16 rfl)) rfl⟩
    refine ⟨?_, ?_⟩
    · intro a' w' k' hb hf hs hc hq hg hd
      obtain rfl : k' = 0 := Nat.le_zero.1 (hq 0 16 rfl (waits (by kernel_rfl))); exact ⟨wantedN rfl, k_val (.slice (some ⟨qa, 7, none⟩) 384 384) (by decide) hs (x_sl89 rfl (hd 11 (by kernel_rfl) 17 rfl)) rfl⟩
    refine ⟨?_, ?_⟩
    · intro a' w' k' hb hf hs hc hq hg hd
      obtain rfl : k' = 0 := Nat.le_zero.1 (hq 0 16 rfl (waits (by kernel_rfl))); exact ⟨wantedN rfl, k_call 43 _ (by decide) (e_call1 rfl rfl (hd 12 (by kernel_rfl) 18 rfl) cf43) ((clone_any _ (some ⟨qa, 7, none⟩) 384 384 qx.P (rd_node (unhide HN _ hs) (unhide HL)) rfl (by rw [unhide HL]; decide) (unhide HL) (by decide)).mono (by rintro e w7 ⟨ao, cc, rfl, h1, h2, f, -⟩; exact ⟨_, rfl, ⟨Nat.zero_le _, fun _ => ⟨h1, h2⟩⟩, f, Fr.trans hs f (fun _ _ h => h)⟩))⟩
    refine ⟨?_, ?_⟩
    · intro a' w' k' hb hf hs hc hq hg hd
      obtain rfl : k' = 0 := Nat.le_zero.1 (hq 0 16 rfl (waits (by kernel_rfl))); exact ⟨wantedN rfl, k_val (.iface 25 (ptr h)) (by decide) hs (x_nilCheckI rfl (hd 3 (by kernel_rfl) 9 rfl)) rfl⟩
    refine ⟨?_, ?_⟩
    · intro a' w' k' hb hf hs hc hq hg hd
      obtain rfl : k' = 0 := Nat.le_zero.1 (hq 0 16 rfl (waits (by kernel_rfl))); exact ⟨wantedN rfl, k_val (.iface 25 (ptr h)) (by decide) hs (x_move rfl (hd 3 (by kernel_rfl) 9 rfl)) rfl⟩
    refine ⟨?_, ?_⟩
    · intro a' w' k' hb hf hs hc hq hg hd
      obtain rfl := hc 0 rfl; have hh := (hd 13 (by kernel_rfl) 19 rfl); obtain ⟨hh1, hh2⟩ := hh.2 rfl; exact ⟨wantedN rfl, k_callC 68 _ (by decide) (e_inv2 rfl (hd 15 (by kernel_rfl) 21 rfl) (hd 8 (by kernel_rfl) 14 rfl) rfl) ((unhide HWR _ _ hs hh1 hh2).mono (by rintro e w7 ⟨rfl, h1, f⟩; exact ⟨_, rfl, rfl, f, h1⟩))⟩
    refine ⟨?_, ?_⟩
    · intro a' w' k' hb hf hs hc hq hg hd
      exact ⟨wantedN rfl, k_val (.int .i64 (whE m)) (by decide) hs (x_assign rfl (hd 16 (by kernel_rfl) 22 rfl)) rfl⟩
    exact trivial
  case done =>
    intro a' w' hb hf hs hall
    have hdf' : a'.defers = [] := by rw [hb.defers]; exact hdf
    obtain ⟨v19, hv19⟩ : ∃ v, a'.tmps.getD 19 undef = v := ⟨_, rfl⟩
    have hfr := frame_eq (a := a') (vs := [ptr p, ptr qa, a0.tmps.getD 2 undef, a0.tmps.getD 3 undef, a0.tmps.getD 4 undef, .int .i64 (whE m), ptr p, ptr p, .pointer (some ⟨p, 0, none⟩), .iface 25 (ptr h), ptr qa, ptr qa, .pointer (some ⟨qa, 2, none⟩), .pointer (some ⟨qa, 2, none⟩), .int .i64 qx.b, ptr qa, ptr qa, .pointer (some ⟨qa, 7, none⟩), .slice (some ⟨qa, 7, none⟩) 384 384, v19, .iface 25 (ptr h), .iface 25 (ptr h), .int .i64 (whE m), a0.tmps.getD 23 undef, a0.tmps.getD 24 undef, a0.tmps.getD 25 undef, a0.tmps.getD 26 undef, a0.tmps.getD 27 undef, a0.tmps.getD 28 undef]) (by rw [hb.size, hsz]; rfl) hdf' ⟨((hb.old 0 (by decide +kernel)).trans h0), ((hb.old 1 (by decide +kernel)).trans h1), (hb.old 2 (by decide +kernel)), (hb.old 3 (by decide +kernel)), (hb.old 4 (by decide +kernel)), (show a'.tmps.getD 5 undef = .int .i64 (whE m) from hall 17 (by decide) 5 rfl), (show a'.tmps.getD 6 undef = ptr p from hall 0 (by decide) 6 rfl), (show a'.tmps.getD 7 undef = ptr p from hall 1 (by decide) 7 rfl), (show a'.tmps.getD 8 undef = .pointer (some ⟨p, 0, none⟩) from hall 2 (by decide) 8 rfl), (show a'.tmps.getD 9 undef = .iface 25 (ptr h) from hall 3 (by decide) 9 rfl), (show a'.tmps.getD 10 undef = ptr qa from hall 4 (by decide) 10 rfl), (show a'.tmps.getD 11 undef = ptr qa from hall 5 (by decide) 11 rfl), (show a'.tmps.getD 12 undef = .pointer (some ⟨qa, 2, none⟩) from hall 6 (by decide) 12 rfl), (show a'.tmps.getD 13 undef = .pointer (some ⟨qa, 2, none⟩) from hall 7 (by decide) 13 rfl), (show a'.tmps.getD 14 undef = .int .i64 qx.b from hall 8 (by decide) 14 rfl), (show a'.tmps.getD 15 undef = ptr qa from hall 9 (by decide) 15 rfl), (show a'.tmps.getD 16 undef = ptr qa from hall 10 (by decide) 16 rfl), (show a'.tmps.getD 17 undef = .pointer (some ⟨qa, 7, none⟩) from hall 11 (by decide) 17 rfl), (show a'.tmps.getD 18 undef = .slice (some ⟨qa, 7, none⟩) 384 384 from hall 12 (by decide) 18 rfl), hv19, (show a'.tmps.getD 20 undef = .iface 25 (ptr h) from hall 14 (by decide) 20 rfl), (show a'.tmps.getD 21 undef = .iface 25 (ptr h) from hall 15 (by decide) 21 rfl), (show a'.tmps.getD 22 undef = .int .i64 (whE m) from hall 16 (by decide) 22 rfl), (hb.old 23 (by decide +kernel)), (hb.old 24 (by decide +kernel)), (hb.old 25 (by decide +kernel)), (hb.old 26 (by decide +kernel)), (hb.old 27 (by decide +kernel)), (hb.old 28 (by decide +kernel)), trivial⟩
    have HS := hide hs
    clear hall hb hf hs hv19
    subst hfr
    rw [unhide HA0]
    clear HA0 h0 h1 hsz hdf hdf'
    apply_assumption
    have hWH : WH w h dv lv (m.wr qx.b qx.P) w' := unhide HS
    obtain ⟨⟨lv', vs', h1, h2⟩, f⟩ := hWH
    have hK' := (unhide HK).kept f (fun k hk => by
      have := (unhide HHH).knds hk
      rcases this with e | e | e <;> rw [e] <;> decide)
    have HH1 := hide h1
    have HF1 := hide f
    have HL2 := hide h2
    have HK' := hide hK'
    obtain ⟨o', n', hn'⟩ := hK'.at (q := (qa, qx)) (by simp)
    have c6 := hn'.c6
    have z6 := frozen_of_heap hn' 6
    clear HS h1 h2 f hK' hn'
    unfold ptr at *
    rcases hfa : m.fa with _ | _
    · have hE : whE m = 0 := by unfold whE; rw [hfa]; rfl
      have hC : clP m qx = { qx with dirty := false } := by unfold clP; rw [hfa]; rfl
      rw [hE]
      have HE := hide hE
      have HC := hide hC
      clear hE hC hfa
      go_wp2_with fail
      go_ret
      have f2 : Fr (fun k => k = qa) w' (w'.setCell ⟨qa, 6, none⟩ (.bool false)) := (Fr.refl (fun k => k = qa) w').setCell (p := ⟨qa, 6, none⟩) (fun _ => rfl) _
      have ok := unhide HBL
      refine ⟨by rw [unhide HE]; rfl, ?_, ⟨lv', vs', (unhide HH1).kept f2 (fun k hk => ?_), unhide HL2⟩, ((unhide HF1).mono (fun _ _ e => .inl e)).trans f2 (fun _ _ e => .inr e)⟩
      · rw [unhide HC]
        exact (unhide HK').turn rfl ⟨ok.len, ok.b, ok.first, ok.last, ok.pins⟩ (fun o n hn => hn.set6 false) f2
      · have : knd w' k = 91 := (unhide HK').ring.knd (by rw [show k = qa from hk]; simp [adr])
        rw [this]; decide
    · have hE : whE m = 77 := by unfold whE; rw [hfa]; rfl
      have hC : clP m qx = qx := by unfold clP; rw [hfa]; rfl
      rw [hE]
      have HE := hide hE
      have HC := hide hC
      clear hE hC hfa
      go_wp2_with fail
      go_ret
      exact ⟨by rw [unhide HE]; rfl, by rw [unhide HC]; exact unhide HK', ⟨lv', vs', unhide HH1, unhide HL2⟩, (unhide HF1).mono (fun _ _ e => .inl e)⟩
end
end Go.Proofs.Ytdgmlopaeonacaa
