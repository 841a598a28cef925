/-
  An inode's bytes: Put.
-/
import Derived.Test.YtbenailemoefhaaC2
import Derived.Test.YtbenailemoefhaaA2
namespace Go.Proofs.Ytbenailemoefhaa
open Go.RowKit Go.Lib
set_option linter.unusedVariables false
set_option linter.unusedSimpArgs false

attribute [local go_sem ↓] Go.wp_at_zero Go.wp_at_succ

/-- Numbers as their kinds can be. -/
structure In.Ok (x : In) : Prop where
  n : 0 ≤ x.n ∧ x.n < 18446744073709551616
  g : 0 ≤ x.g ∧ x.g < 4294967296
  k : -9223372036854775808 ≤ x.k ∧ x.k < 9223372036854775808
  m : 0 ≤ x.m ∧ x.m < 4294967296
  l : 0 ≤ x.l ∧ x.l < 4294967296
  u : 0 ≤ x.u ∧ x.u < 4294967296
  d : 0 ≤ x.d ∧ x.d < 4294967296
  s : 0 ≤ x.s ∧ x.s < 18446744073709551616
  b : 0 ≤ x.b ∧ x.b < 18446744073709551616
  ta : 0 ≤ x.ta ∧ x.ta < 18446744073709551616
  tm : 0 ≤ x.tm ∧ x.tm < 18446744073709551616
  tc : 0 ≤ x.tc ∧ x.tc < 18446744073709551616
  r : 0 ≤ x.r ∧ x.r < 18446744073709551616
/-- An inode's bytes. -/
def pb (x : In) : List UInt8 := be 8 x.n.toNat ++ lay 4 [x.g.toNat, x.k.toNat, x.m.toNat, x.l.toNat, x.u.toNat, x.d.toNat] ++ lay 8 [x.s.toNat, x.b.toNat, x.ta.toNat, x.tm.toNat, x.tc.toNat, x.r.toNat] ++ be 4 x.t.size ++ x.t.data.toList ++ List.replicate (zb x.t.size) 0
/-- What Put answers. -/
def pR (x : In) : List UInt8 := if ck x = 0 then pb x else []
theorem ck_facts {x : In} (h : ck x = 0) : (x.k = 1 ∨ x.k = 2 ∨ x.k = 5) ∧ x.t.size ≤ 255 := by
  unfold ck at h
  by_cases h1 : x.n = 0 ∨ x.g = 0 ∨ kdB x.k = false ∨ x.m > 4095
  · rw [if_pos h1] at h; simp at h
  · rw [if_neg h1] at h
    by_cases h2 : x.l > 32000
    · rw [if_pos h2] at h; simp at h
    · rw [if_neg h2] at h
      by_cases h3 : (x.t.size : Int) > 255
      · rw [if_pos h3] at h; simp at h
      · refine ⟨?_, by omega⟩
        have h4 : ¬ kdB x.k = false := fun e => h1 (.inr (.inr (.inl e)))
        unfold kdB at h4
        simp at h4
        omega
theorem lay1 (k n : Nat) : lay k [n] = be k n := by simp [lay]
theorem Nb.ext {W0 W : World} {v : Value} {l : List UInt8} (h : Nb W0 W v l) : ∃ E, W = ext W0 E ∧ Like W0 E := ext_of h.fr
theorem Nb.lt {W0 W : World} {v : Value} {l : List UInt8} (h : Nb W0 W v l) : ∀ k, v.ownBlock = some k → k < W.heap.size := by
  intro k hk
  rcases h.own.2 with ⟨rfl, -⟩ | ⟨g, cap, cur, rfl, -, hg, -⟩
  · simp [Value.ownBlock] at hk
  · simp [Value.ownBlock] at hk
    subst hk
    exact lt_of_heap hg
theorem Nb.lit {W0 W : World} {v : Value} {l : List UInt8} (h : Nb W0 W v l) (hl : 0 < l.length) : ∃ g cap, v = .slice (some ⟨g, 0, none⟩) l.length cap ∧ W0.heap.size ≤ g := by
  rcases h.own.2 with ⟨-, e⟩ | ⟨g, cap, cur, e, -⟩
  · omega
  · exact ⟨g, cap, e, h.new g (by rw [e]; rfl)⟩
theorem lay_new (W0 W : World) (v : Value) (l : List UInt8) (k : Nat) (vs : List Value) (a m : Nat) (ns : List Nat) (h : Nb W0 W v l) (hk : k = 4 ∨ k = 8) (ha : a = W.heap.size) (hvs : uvs ns = vs) (hm : m = ns.length) (hn : ns.length ≤ 10) (hl : l.length ≤ 1000) (hb : ∀ n ∈ ns, n < 18446744073709551616) : Calls Try.prog 40 #[v, .int .i64 (k : Int), .slice (some ⟨a, 0, none⟩) m m] (W.alloc (.cells vs.toArray 22)) fun e w' => ∃ v', e = .returned v' ∧ Nb W0 w' v' (l ++ lay k ns) := by
  subst ha hvs hm
  have e : (uvs ns).length = ns.length := by simp [uvs]
  refine lay_any W0 _ v l k _ ns (h.alloc _) hk ?_ ?_ ?_ hn hl hb
  · have := rdv_new W (uvs ns) 22 (by omega)
    rw [e] at this; exact this
  · intro b hb c hc
    simp [Value.ownBlock] at hb
    have := h.lt c hc
    omega
  · intro b hb
    simp [Value.ownBlock] at hb
    simp; omega
theorem strCells_bvs (t : ByteArray) : strCells t = bvs t.data.toList := by
  simp [strCells, bvs]
set_option maxRecDepth 100000 in
set_option maxHeartbeats 4000000 in
theorem put_any (x : In) (hx : x.Ok) (w : World) : Calls Try.prog 13 #[x.v] w fun e w' => ∃ v', e = .returned (.tuple #[v', .int .i64 (ck x)]) ∧ Nb w w' v' (pR x) := by
  have HC := check_any x
  have HX := hide hx
  have HP : Hid (pR x = if ck x = 0 then pb x else []) := hide rfl
  have HCK : Hid (ck x = 0 → (x.k = 1 ∨ x.k = 2 ∨ x.k = 5) ∧ x.t.size ≤ 255) := hide ck_facts
  generalize pR x = PR at *
  generalize ck x = c at *
  clear hx
  by_cases hc : c = 0
  · subst hc
    obtain ⟨hk, ht⟩ := unhide HCK rfl
    have HK := hide hk
    rw [if_pos rfl] at HP
    obtain ⟨ts, hts⟩ : ∃ ts, ts = x.t.size := ⟨_, rfl⟩
    have HTS := hide hts
    clear HCK hk
    go_enter Try.func13, Try.ntmps13
    go_wp2_with (first | (go_at_call 18; refine mono_ext (HC _) ?_; rintro e E rfl hE) | (refine wl_load25 _ rfl rfl _ rfl (by simp [go_sem]) (by simp [go_sem]; exact rfl) ?_))
    refine (lay_new (w.alloc (.cells x.cs 25)) (Ytbenailemoefhaa.ext (w.alloc (.cells x.cs 25)) E) (.slice none 0 0) [] 8 _ _ 1 [x.n.toNat] (Nb.nil (Fr.ext (Fr.refl _ _) hE)) (.inr rfl) (by simp [go_sem]) ?_ rfl (by simp) (by simp) ?_).mono ?_
    · have h9 := (unhide HX).n
      simp [uvs]; omega
    · have h9 := (unhide HX).n
      intro n hn; simp at hn; omega
    rintro e w1 ⟨v1, rfl, h1⟩
    rw [List.nil_append, lay1] at h1
    obtain ⟨E1, rfl, hE1⟩ := h1.ext
    have H1 := hide h1
    clear h1 HC hE
    go_wp2_with fail
    refine (lay_new (w.alloc (.cells x.cs 25)) (Ytbenailemoefhaa.ext (w.alloc (.cells x.cs 25)) E1) v1 _ 4 _ _ 6 [x.g.toNat, x.k.toNat, x.m.toNat, x.l.toNat, x.u.toNat, x.d.toNat] (unhide H1) (.inl rfl) (by simp [go_sem]) ?_ rfl (by simp) (by simp [be_length]) ?_).mono ?_
    · have h9 := unhide HX
      have h8 := unhide HK
      have := h9.g; have := h9.m; have := h9.l; have := h9.u; have := h9.d
      simp only [uvs, List.map_cons, List.map_nil, IntKind.wrap, IntKind.bits, IntKind.signed]
      simp
      omega
    · have h9 := unhide HX
      have h8 := unhide HK
      have := h9.g; have := h9.m; have := h9.l; have := h9.u; have := h9.d
      intro n hn; simp at hn; omega
    rintro e w2 ⟨v2, rfl, h2⟩
    obtain ⟨E2, rfl, hE2⟩ := h2.ext
    have H2 := hide h2
    clear h2 H1 hE1
    go_wp2_with fail
    refine (lay_new (w.alloc (.cells x.cs 25)) (Ytbenailemoefhaa.ext (w.alloc (.cells x.cs 25)) E2) v2 _ 8 _ _ 6 [x.s.toNat, x.b.toNat, x.ta.toNat, x.tm.toNat, x.tc.toNat, x.r.toNat] (unhide H2) (.inr rfl) (by simp [go_sem]) ?_ rfl (by simp) (by simp [be_length, lay_length]) ?_).mono ?_
    · have h9 := unhide HX
      have := h9.s; have := h9.b; have := h9.ta; have := h9.tm; have := h9.tc; have := h9.r
      simp [uvs]
      omega
    · have h9 := unhide HX
      have := h9.s; have := h9.b; have := h9.ta; have := h9.tm; have := h9.tc; have := h9.r
      intro n hn; simp at hn; omega
    rintro e w3 ⟨v3, rfl, h3⟩
    obtain ⟨E3, rfl, hE3⟩ := h3.ext
    have H3 := hide h3
    clear h3 H2 hE2
    go_wp2_with fail
    refine (lay_new (w.alloc (.cells x.cs 25)) (Ytbenailemoefhaa.ext (w.alloc (.cells x.cs 25)) E3) v3 _ 4 _ _ 1 [x.t.size] (unhide H3) (.inl rfl) (by simp [go_sem]) ?_ rfl (by simp) (by simp [be_length, lay_length]) ?_).mono ?_
    · first | rfl | (simp [uvs]; done)
    · intro n hn; simp at hn; omega
    rintro e w4 ⟨v4, rfl, h4⟩
    rw [lay1] at h4
    obtain ⟨E4, rfl, hE4⟩ := h4.ext
    have H4 := hide h4
    have HL4 : Hid ((be 8 x.n.toNat ++ lay 4 [x.g.toNat, x.k.toNat, x.m.toNat, x.l.toNat, x.u.toNat, x.d.toNat] ++ lay 8 [x.s.toNat, x.b.toNat, x.ta.toNat, x.tm.toNat, x.tc.toNat, x.r.toNat] ++ be 4 x.t.size).length = 84) := hide (by simp [be_length, lay_length])
    unfold pb at HP
    generalize be 8 x.n.toNat ++ lay 4 [x.g.toNat, x.k.toNat, x.m.toNat, x.l.toNat, x.u.toNat, x.d.toNat] ++ lay 8 [x.s.toNat, x.b.toNat, x.ta.toNat, x.tm.toNat, x.tc.toNat, x.r.toNat] ++ be 4 x.t.size = B at *
    clear h4 H3 hE3
    go_wp2_with (refine wpList_appS rfl rfl (.tmp 58) (.tmp 60) rfl rfl rfl (unhide H4).based ?hk ?hb ?hK)
    case hk => have := unhide HL4; omega
    case hb => simp [go_sem]
    case hK =>
      intro ao c w5 ho hg
      have hsz : x.t.data.toList.length = x.t.size := Array.length_toList
      rw [strCells_bvs] at ho
      have h5 := (unhide H4).grownB (x := x.t.data.toList) (by rw [hsz, show (w.alloc (.cells x.cs 25)).heap.size = w.heap.size + 1 by simp]; exact ho) hg
      have HLT : Hid ((B ++ x.t.data.toList).length = 84 + x.t.size) := hide (by rw [List.length_append, hsz, unhide HL4])
      have e84 : B.length = 84 := unhide HL4
      rw [e84] at h5 ⊢
      obtain ⟨E5, rfl, hE5⟩ := h5.ext
      obtain ⟨g5, c5, e5, hg5⟩ := h5.lit (by rw [unhide HLT]; omega)
      rw [unhide HLT] at e5
      simp only [Value.slice.injEq] at e5
      obtain ⟨rfl, -, rfl⟩ := e5
      have H5 := hide h5
      have HPB : Hid (PR = B ++ x.t.data.toList ++ List.replicate (zb x.t.size) 0) := HP
      have HZ := hide (fun W => zeros_any x.t.size W (by omega))
      have hzb : zb x.t.size ≤ 3 := by unfold zb; omega
      clear ho hg h5 HP H4 hE4 hsz
      go_wp2_with (first | (go_at_call 41; refine (unhide HZ _).mono ?_; rintro e w' ⟨rfl, rfl⟩) | (refine wpList_app0 rfl rfl (.tmp 62) (.tmp 66) rfl (unhide HLT) rfl rfl rfl ?hown ?hk ?hK))
      case hown => have h9 := (unhide H5).own; rw [unhide HLT] at h9; exact h9
      case hk => omega
      case hK =>
        intro ao6 c6 w6 ho6 hg6 hb6
        have h5 := unhide H5
        have H6 : Hid (Nb w w6 (.slice ao6 (84 + x.t.size + zb x.t.size) c6) PR) := hide (by
          rw [unhide HPB]
          refine ⟨by rw [List.length_append, unhide HLT, List.length_replicate]; (try rw [List.append_assoc]); exact ho6, ?_, fun k hk => ?_⟩
          · refine (((Fr.refl _ _).alloc (.cells x.cs 25)).trans h5.fr (fun _ _ e => e)).grown hg6 (fun k hk e => ?_)
            simp at e; subst e; simp at hg5; omega
          · rcases hb6 with e | e
            · rw [e] at hk; simp at hk; subst hk; simp at hg5; omega
            · rw [e] at hk; simp at hk; have := ((Fr.refl (fun _ => False) w).alloc (.cells x.cs 25)).size; have := h5.fr.size; first | omega | (simp at *; omega))
        clear ho6 hg6 hb6 h5 H5
        go_wp2_with fail
        go_ret2
        exact ⟨_, rfl, unhide H6⟩
  · have bne : (c != 0) = true := by simpa using hc
    rw [if_neg hc] at HP
    have hP : PR = [] := unhide HP
    subst hP
    clear HP HCK hc
    go_enter Try.func13, Try.ntmps13
    go_wp2_with (first | (go_at_call 18; refine mono_ext (HC _) ?_; rintro e E rfl hE) | (refine wl_load25 _ rfl rfl _ rfl (by simp [go_sem]) (by simp [go_sem]; exact rfl) ?_))
    go_ret2
    exact ⟨_, rfl, Nb.nil (Fr.ext ((Fr.refl _ _).alloc _) hE)⟩
end Go.Proofs.Ytbenailemoefhaa
