/-
  The walk of the laws' live.
-/
import Derived.Test.YtdhendcogjhgfaaD18
namespace Go.Proofs.Ytdhendcogjhgfaa
open Go.RowKit
set_option linter.unusedVariables false

attribute [local go_sem ↓] Go.wp_at_zero Go.wp_at_succ

/-- A disk that was made since w. -/
structure Nd (w wr : World) (p gs : Nat) (q : Value) (d : Dk) : Prop where
  k : KAt wr p gs q d
  f : Fr (fun _ => False) w wr
  hq : ∀ b, q.ownBlock = some b → w.heap.size ≤ b
  hp : w.heap.size ≤ p
  hg : w.heap.size ≤ gs

/-- What may have turned while a disk went on. -/
structure Mv (wr w' : World) (p gs : Nat) (q q' : Value) : Prop where
  f : Fr (fun k => k = p ∨ k = gs ∨ q.ownBlock = some k) wr w'
  q : ∀ b, q'.ownBlock = some b → q.ownBlock = some b ∨ wr.heap.size ≤ b

theorem Nd.fr {w wr w' : World} {p gs : Nat} {q : Value} {d : Dk} (h : Nd w wr p gs q d) (f : Fr (fun _ => False) wr w') : Nd w w' p gs q d :=
  ⟨h.k.kept f id id (fun _ _ h => h), h.f.trans f (fun _ _ h => h), h.hq, h.hp, h.hg⟩

theorem Nd.go {w wr w' : World} {p gs : Nat} {q : Value} {d d' : Dk} (h : Nd w wr p gs q d) (s : KSt wr w' p gs q d') : ∃ q', Nd w w' p gs q' d' ∧ Mv wr w' p gs q q' := by
  obtain ⟨⟨q', hk, hq⟩, f⟩ := s
  refine ⟨q', ⟨hk, h.f.trans f (fun k hk e => ?_), fun b hb => ?_, h.hp, h.hg⟩, f, hq⟩
  · rcases e with e | e | e
    · have := h.hp; omega
    · have := h.hg; omega
    · have := h.hq k e; omega
  · rcases hq b hb with e | e
    · exact h.hq b e
    · have := h.f.size; omega

theorem Aw.mv {w w' : World} {p gs : Nat} {q q' v : Value} {l : List UInt8} (h : Aw w p gs q v l) (m : Mv w w' p gs q q') : Aw w' p gs q' v l := h.step m.f m.q

section
variable {w wr : World} {p gs : Nat} {q : Value} {d : Dk}

theorem write_nd (a : Int) (v : Value) (l : List UInt8) (h : Nd w wr p gs q d) (hr : Rd wr v l) : Calls Try.prog 27 #[.pointer (some ⟨p, 0, none⟩), .int .i64 a, v] wr fun e w' => e = .returned (.int .i64 (wrE d a l)) ∧ ∃ q', Nd w w' p gs q' (wrD d a l) ∧ Mv wr w' p gs q q' := by
  by_cases he : wrE d a l = 0
  · refine (write_ok wr p gs q d a v l h.k hr he).mono ?_
    rintro e w' ⟨rfl, s⟩
    exact ⟨by rw [he], h.go s⟩
  · refine (write_no wr p gs q d a v l h.k hr he).mono ?_
    rintro e w' ⟨rfl, rfl⟩
    have e1 : wrD d a l = d := by unfold wrD; rw [if_neg he]
    rw [e1]
    exact ⟨rfl, h.go (KSt.same h.k)⟩

theorem read_nd (a : Int) (l : List UInt8) (n : Nat) (E : Int) (h : Nd w wr p gs q d) (hr : rdD d a = (l, E)) (hn : l.length = n) : Calls Try.prog 29 #[.pointer (some ⟨p, 0, none⟩), .int .i64 a] wr fun e w' => ∃ ao c, e = .returned (.tuple #[.slice ao n c, .int .i64 E]) ∧ Aw w' p gs q (.slice ao n c) l ∧ Nd w w' p gs q d ∧ Fr (fun _ => False) wr w' := by
  subst hn
  refine (read_any wr p gs q d a h.k).mono ?_
  rintro e w' ⟨⟨ao, c, rfl, h1, h2⟩, f⟩
  rw [hr] at h1 h2 ⊢
  exact ⟨ao, c, rfl, Aw.new h.k h1 h2, h.fr f, f⟩

theorem crash_nd (kv : Value) (K : List Int) (h : Nd w wr p gs q d) (hn : d.n + d.Q.length < 1000000000) (hk : RdV wr kv (K.map (Value.int .i64))) : Calls Try.prog 23 #[.pointer (some ⟨p, 0, none⟩), kv] wr fun e w' => e = .returned (.tuple #[]) ∧ ∃ q', Nd w w' p gs q' (crD d K) ∧ Mv wr w' p gs q q' :=
  (crash_any wr p gs q d kv K hn h.k hk).mono (by rintro e w' ⟨rfl, s⟩; exact ⟨rfl, h.go s⟩)

theorem turn_nd (a b : Int) (m : Nat) (hm : m < 4294967296) (h : Nd w wr p gs q d) : Calls Try.prog 31 #[.pointer (some ⟨p, 0, none⟩), .int .i64 a, .int .i64 b, .int .u32 (m : Int)] wr fun e w' => e = .returned (.int .i64 (tuE d a b m)) ∧ ∃ q', Nd w w' p gs q' (tuD d a b m) ∧ Mv wr w' p gs q q' :=
  (turn_any wr p gs q d a b m hm h.k).mono (by rintro e w' ⟨rfl, s⟩; exact ⟨rfl, h.go s⟩)

theorem lose_nd (a : Int) (h : Nd w wr p gs q d) : Calls Try.prog 33 #[.pointer (some ⟨p, 0, none⟩), .int .i64 a] wr fun e w' => e = .returned (.int .i64 (reE d a true)) ∧ ∃ q', Nd w w' p gs q' (loD d a) ∧ Mv wr w' p gs q q' :=
  (lose_any wr p gs q d a h.k).mono (by rintro e w' ⟨rfl, s⟩; exact ⟨rfl, h.go s⟩)

theorem flush_nd (h : Nd w wr p gs q d) (hn : d.n + d.Q.length ≤ 1000000000) : Calls Try.prog 24 #[.pointer (some ⟨p, 0, none⟩)] wr fun e w' => e = .returned (.int .i64 (flE d)) ∧ ∃ q', Nd w w' p gs q' (flD d) ∧ Mv wr w' p gs q q' :=
  (flush_any wr p gs q d hn h.k).mono (by rintro e w' ⟨rfl, s⟩; exact ⟨rfl, h.go s⟩)

theorem fail_nd (h : Nd w wr p gs q d) : Calls Try.prog 36 #[.pointer (some ⟨p, 0, none⟩)] wr fun e w' => e = .returned (.tuple #[]) ∧ ∃ q', Nd w w' p gs q' (faD d) ∧ Mv wr w' p gs q q' :=
  (fail_any wr p gs q d h.k).mono (by rintro e w' ⟨rfl, s⟩; exact ⟨rfl, h.go s⟩)
end

theorem new_nd (w wr : World) (f : Fr (fun _ => False) w wr) (s z : Nat) (hs : 1 ≤ s ∧ s ≤ 65536) (hz : 8 ≤ z ∧ z ≤ 512) : Calls Try.prog 12 #[.int .i64 (s : Int), .int .i64 (z : Int)] wr fun e w' => ∃ p gs, e = .returned (.tuple #[.pointer (some ⟨p, 0, none⟩), .int .i64 0]) ∧ Nd w w' p gs (.slice none 0 0) (newD s z) ∧ Fr (fun _ => False) wr w' := by
  refine (new_ok wr s z hs hz).mono ?_
  rintro e w' ⟨⟨p, gs, rfl, hp, hg, hk⟩, f'⟩
  have := f.size
  exact ⟨p, gs, rfl, ⟨hk, f.trans f' (fun _ _ h => h), fun b hb => by simp [Value.ownBlock] at hb, by omega, by omega⟩, f'⟩

theorem rdv_one (w : World) : RdV (w.alloc (Obj.cells #[Value.int .i64 0] 3)) (.slice (some ⟨w.heap.size, 0, none⟩) 1 1) (([0] : List Int).map (Value.int .i64)) :=
  .inr ⟨⟨w.heap.size, 0, none⟩, 1, rfl, Nat.le_refl _, by simp [maxLen], fun j hj => by
    have : j = 0 := by simpa using hj
    subst this
    rw [Addr.add_lit, Nat.zero_add, cell_of_heap (heap_alloc_new w _)]
    rfl⟩

set_option maxHeartbeats 2000000 in
set_option maxRecDepth 100000 in
theorem live_any (w : World) : Calls Try.prog 11 #[] w fun e w' => e = .returned (.bool true) ∧ Fr (fun _ => False) w w' := by
  go_enter Try.func11, Try.ntmps11
  go_wp2_with fail
  refine (new_nd w w (Fr.refl _ _) 2 16 (by omega) (by omega)).mono ?_
  rintro e w0 ⟨p, gs, rfl, n0, -⟩
  replace n0 : Nd w w0 p gs (.slice none 0 0) lv0 := n0
  have N := hide n0
  clear n0
  go_wp2_with (go_at_call 14; refine (num_any _ _).mono ?_; rintro e w' ⟨rfl, rfl⟩)
  refine (full_any w0 16 97 (by omega)).mono ?_
  rintro e w1 ⟨rfl, hB, f⟩
  have N1 := hide ((unhide N).fr f)
  have HB1 := hide hB
  clear f hB
  go_wp2_with fail
  refine (write_nd 1 _ (List.replicate 16 97) (unhide N1) ((unhide HB1).rd (by simp [maxLen]))).mono ?_
  rintro e w2 ⟨rfl, q2, n, m⟩
  rw [lv_a]
  replace n : Nd w w2 p gs q2 lv1 := n
  have N2 := hide n
  clear n m
  go_wp2_with fail
  refine (full_any w2 16 98 (by omega)).mono ?_
  rintro e w3 ⟨rfl, hB, f⟩
  have N3 := hide ((unhide N2).fr f)
  have HB3 := hide hB
  clear f hB
  go_wp2_with fail
  refine (write_nd 1 _ (List.replicate 16 98) (unhide N3) ((unhide HB3).rd (by simp [maxLen]))).mono ?_
  rintro e w4 ⟨rfl, q4, n, m⟩
  rw [lv_b]
  replace n : Nd w w4 p gs q4 lv2 := n
  have N4 := hide n
  clear n m
  go_wp2_with fail
  refine (read_nd 1 (List.replicate 16 98) 16 _ (unhide N4) lv_x (by simp)).mono ?_
  rintro e w5 ⟨oX, cX, rfl, hA, n, f⟩
  have N5 := hide n
  have X5 := hide hA
  clear hA n f
  go_wp2_with fail
  refine (crash_nd (wr := w5.alloc (Obj.cells #[Value.int .i64 0] 3)) _ [0] ((unhide N5).fr ((Fr.refl _ _).alloc _)) lv_n (rdv_one _)).mono ?_
  rintro e w9 ⟨rfl, q9, n, m⟩
  replace n : Nd w w9 p gs q9 lv3 := n
  have N9 := hide n
  have X9 := hide (((unhide X5).kept ((Fr.refl _ _).alloc _)).mv m)
  clear n m
  go_wp2_with fail
  refine (read_nd 1 (List.replicate 16 97) 16 _ (unhide N9) lv_y (by simp)).mono ?_
  rintro e w10 ⟨oY, cY, rfl, hA, n, f⟩
  have N10 := hide n
  have X10 := hide ((unhide X9).kept f)
  have Y10 := hide hA
  clear hA n f
  go_wp2_with fail
  refine (turn_nd 0 0 1 (by omega) (unhide N10)).mono ?_
  rintro e w11 ⟨rfl, q11, n, m⟩
  rw [lv_h]
  replace n : Nd w w11 p gs q11 lv4 := n
  have N11 := hide n
  have X11 := hide ((unhide X10).mv m)
  have Y11 := hide ((unhide Y10).mv m)
  clear n m
  go_wp2_with fail
  refine (turn_nd 0 8 1 (by omega) (unhide N11)).mono ?_
  rintro e w12 ⟨rfl, q12, n, m⟩
  rw [lv_i]
  replace n : Nd w w12 p gs q12 lv5 := n
  have N12 := hide n
  have X12 := hide ((unhide X11).mv m)
  have Y12 := hide ((unhide Y11).mv m)
  clear n m
  go_wp2_with fail
  refine (read_nd 0 lvz 16 _ (unhide N12) lv_z (by rfl)).mono ?_
  rintro e w13 ⟨oZ, cZ, rfl, hA, n, f⟩
  have N13 := hide n
  have X13 := hide ((unhide X12).kept f)
  have Y13 := hide ((unhide Y12).kept f)
  have Z13 := hide hA
  clear hA n f
  go_wp2_with fail
  refine (lose_nd 1 (unhide N13)).mono ?_
  rintro e w14 ⟨rfl, q14, n, m⟩
  rw [lv_j]
  replace n : Nd w w14 p gs q14 lv6 := n
  have N14 := hide n
  have X14 := hide ((unhide X13).mv m)
  have Y14 := hide ((unhide Y13).mv m)
  have Z14 := hide ((unhide Z13).mv m)
  clear n m
  go_wp2_with fail
  refine (read_nd 1 [] 0 _ (unhide N14) lv_k (by rfl)).mono ?_
  rintro e w15 ⟨oU, cU, rfl, hA, n, f⟩
  have N15 := hide n
  have X15 := hide ((unhide X14).kept f)
  have Y15 := hide ((unhide Y14).kept f)
  have Z15 := hide ((unhide Z14).kept f)
  have U15 := hide hA
  clear hA n f
  go_wp2_with fail
  refine (full_any w15 16 99 (by omega)).mono ?_
  rintro e w16 ⟨rfl, hB, f⟩
  have N16 := hide ((unhide N15).fr f)
  have HB16 := hide hB
  have X16 := hide ((unhide X15).kept f)
  have Y16 := hide ((unhide Y15).kept f)
  have Z16 := hide ((unhide Z15).kept f)
  clear f hB
  go_wp2_with fail
  refine (write_nd 1 _ (List.replicate 16 99) (unhide N16) ((unhide HB16).rd (by simp [maxLen]))).mono ?_
  rintro e w17 ⟨rfl, q17, n, m⟩
  rw [lv_w]
  replace n : Nd w w17 p gs q17 lv7 := n
  have N17 := hide n
  have X17 := hide ((unhide X16).mv m)
  have Y17 := hide ((unhide Y16).mv m)
  have Z17 := hide ((unhide Z16).mv m)
  clear n m
  go_wp2_with fail
  refine (flush_nd (unhide N17) lv_m).mono ?_
  rintro e w18 ⟨rfl, q18, n, m⟩
  rw [lv_l]
  replace n : Nd w w18 p gs q18 lv8 := n
  have N18 := hide n
  have X18 := hide ((unhide X17).mv m)
  have Y18 := hide ((unhide Y17).mv m)
  have Z18 := hide ((unhide Z17).mv m)
  clear n m
  go_wp2_with fail
  obtain ⟨bz, oz, rfl, -, -, -, hz⟩ := (unhide Z18).rd.lits (by decide)
  have ZC : Hid (w18.cell? ⟨bz, oz, none⟩ = some (.int .u8 1)) := hide (hz 0 (by decide))
  clear hz
  simp only [List.append_eq, List.cons_append, List.nil_append]
  refine wp_nameK ?_
  intro a0 hA
  have h1 : a0.tmps.getD 1 undef = .pointer (some ⟨p, 0, none⟩) := by rw [hA]; rfl
  have h3 : a0.tmps.getD 3 undef = .int .i64 0 := by rw [hA]; rfl
  have h4 : a0.tmps.getD 4 undef = .int .i64 0 := by rw [hA]; rfl
  have h5 : a0.tmps.getD 5 undef = .slice oX 16 cX := by rw [hA]; rfl
  have h6 : a0.tmps.getD 6 undef = .int .i64 0 := by rw [hA]; rfl
  have h7 : a0.tmps.getD 7 undef = .slice oY 16 cY := by rw [hA]; rfl
  have h8 : a0.tmps.getD 8 undef = .int .i64 0 := by rw [hA]; rfl
  have h9 : a0.tmps.getD 9 undef = .int .i64 0 := by rw [hA]; rfl
  have h10 : a0.tmps.getD 10 undef = .int .i64 8 := by rw [hA]; rfl
  have h11 : a0.tmps.getD 11 undef = .slice (some ⟨bz, oz, none⟩) 16 cZ := by rw [hA]; rfl
  have h13 : a0.tmps.getD 13 undef = .int .i64 0 := by rw [hA]; rfl
  have h15 : a0.tmps.getD 15 undef = .int .i64 42 := by rw [hA]; rfl
  have h16 : a0.tmps.getD 16 undef = .int .i64 0 := by rw [hA]; rfl
  have h17 : a0.tmps.getD 17 undef = .int .i64 0 := by rw [hA]; rfl
  have hsz : a0.tmps.size = 153 := by rw [hA]; rfl
  have hdf : a0.defers = [] := by rw [hA]
  clear hA
  refine wp_region_kinds (fun _ => False) (by kernel_rfl) (by kernel_rfl) (by decide +kernel) (by rw [hsz]; decide +kernel) [.eq (.int .i64 0), .eq (.int .i64 0), .eq (.bool true), .eq (.bool true), .eq (.int .i64 0), .eq (.int .i64 0), .eq (.bool true), .eq (.bool true), .eq (.bool true), .eq (.slice oX 16 cX), .eq (.string (str (List.replicate 16 98))), kRd (List.replicate 16 98), .eq (.string (str (List.replicate 16 98))), .eq (.bool true), .eq (.bool true), .eq (.bool true), .eq (.int .i64 0), .eq (.int .i64 0), .eq (.bool true), .eq (.bool true), .eq (.bool true), .eq (.slice oY 16 cY), .eq (.string (str (List.replicate 16 97))), kRd (List.replicate 16 97), .eq (.string (str (List.replicate 16 97))), .eq (.bool true), .eq (.bool true), .eq (.bool true), .eq (.int .i64 0), .eq (.int .i64 0), .eq (.bool true), .eq (.bool true), .eq (.bool true), .eq (.int .i64 0), .eq (.int .i64 0), .eq (.bool true), .eq (.bool true), .eq (.bool true), .eq (.int .i64 8), .eq (.int .i64 8), .eq (.bool true), .eq (.bool true), .eq (.bool true), .eq (.slice (some ⟨bz, oz, none⟩) 16 cZ), .eq (.int .i64 16), .eq (.bool true), .eq (.bool true), .eq (.bool true), .eq (.slice (some ⟨bz, oz, none⟩) 16 cZ), .eq (.pointer (some ⟨bz, oz, none⟩)), .eq (.int .u8 1), .eq (.bool true), .eq (.bool true), .eq (.bool true), .eq (.int .i64 0), .eq (.int .i64 0), .eq (.bool true), .eq (.bool true), .eq (.bool true), .eq (.int .i64 42), .eq (.int .i64 42), .eq (.bool true), .eq (.bool true), .eq (.bool true), .eq (.int .i64 0), .eq (.int .i64 0), .eq (.bool true), .eq (.bool true), .eq (.bool true), .eq (.int .i64 0), .eq (.int .i64 0), .eq (.bool true), .eq (.bool true), .eq (.bool true), .eq (.pointer (some ⟨p, 0, none⟩)), kRdV (([0] : List Int).map (Value.int .i64)), kRdV (([0] : List Int).map (Value.int .i64)), .eq (.bool true), .eq (.bool true), .eq (.bool true), .eq (.pointer (some ⟨p, 0, none⟩)), .eq (.int .i64 2), .eq (.bool true), .eq (.bool true), .eq (.bool true)] [] (by decide) (by decide) (chain_paths _ [] (by kernel_rfl)) (fun _ _ => True) trivial ?steps ?done
  case steps =>
    refine ⟨?_, ?_⟩
    · intro a' w' k' hb hf hs hc hq hg hd
      exact ⟨wantedN rfl, k_val (.int .i64 0) (by decide) trivial (x_move rfl ((hb.old 3 (by decide +kernel)).trans h3)) rfl⟩
    refine ⟨?_, ?_⟩
    · intro a' w' k' hb hf hs hc hq hg hd
      exact ⟨wantedN rfl, k_call 14 _ (by decide) (e_call1 rfl rfl (hd 0 (by kernel_rfl) 69 rfl) cf14) ((num_any _ _).mono (by rintro e w7 ⟨rfl, rfl⟩; exact ⟨_, rfl, rfl, Fr.refl _ _, trivial⟩))⟩
    refine ⟨?_, ?_⟩
    · intro a' w' k' hb hf hs hc hq hg hd
      exact ⟨wantedN rfl, k_val (.bool true) (by decide) trivial (x_eqI Try.underlying3 rfl (hd 1 (by kernel_rfl) 70 rfl) rfl (by first | rfl | decide | simp)) rfl⟩
    refine ⟨?_, ?_⟩
    · intro a' w' k' hb hf hs hc hq hg hd
      exact ⟨wantedN rfl, k_val (.bool true) (by decide) trivial (x_move rfl (hd 2 (by kernel_rfl) 71 rfl)) rfl⟩
    refine ⟨?_, ?_⟩
    · intro a' w' k' hb hf hs hc hq hg hd
      exact ⟨wantedT (d := 72) rfl rfl (by rw [hb.size, hsz]; omega) (hd 3 (by kernel_rfl) 72 rfl), k_val (.int .i64 0) (by decide) trivial (x_move rfl ((hb.old 4 (by decide +kernel)).trans h4)) rfl⟩
    refine ⟨?_, ?_⟩
    · intro a' w' k' hb hf hs hc hq hg hd
      exact ⟨wantedT (d := 72) rfl rfl (by rw [hb.size, hsz]; omega) (hd 3 (by kernel_rfl) 72 rfl), k_call 14 _ (by decide) (e_call1 rfl rfl (hd 4 (by kernel_rfl) 73 rfl) cf14) ((num_any _ _).mono (by rintro e w7 ⟨rfl, rfl⟩; exact ⟨_, rfl, rfl, Fr.refl _ _, trivial⟩))⟩
    refine ⟨?_, ?_⟩
    · intro a' w' k' hb hf hs hc hq hg hd
      exact ⟨wantedT (d := 72) rfl rfl (by rw [hb.size, hsz]; omega) (hd 3 (by kernel_rfl) 72 rfl), k_val (.bool true) (by decide) trivial (x_eqI Try.underlying3 rfl (hd 5 (by kernel_rfl) 74 rfl) rfl (by first | rfl | decide | simp)) rfl⟩
    refine ⟨?_, ?_⟩
    · intro a' w' k' hb hf hs hc hq hg hd
      exact ⟨wantedN rfl, k_val (.bool true) (by decide) trivial (x_pickT rfl (hd 3 (by kernel_rfl) 72 rfl) (hd 6 (by kernel_rfl) 75 rfl)) rfl⟩
    refine ⟨?_, ?_⟩
    · intro a' w' k' hb hf hs hc hq hg hd
      exact ⟨wantedN rfl, k_val (.bool true) (by decide) trivial (x_move rfl (hd 7 (by kernel_rfl) 76 rfl)) rfl⟩
    refine ⟨?_, ?_⟩
    · intro a' w' k' hb hf hs hc hq hg hd
      exact ⟨wantedT (d := 77) rfl rfl (by rw [hb.size, hsz]; omega) (hd 8 (by kernel_rfl) 77 rfl), k_val (.slice oX 16 cX) (by decide) trivial (x_move rfl ((hb.old 5 (by decide +kernel)).trans h5)) rfl⟩
    refine ⟨?_, ?_⟩
    · intro a' w' k' hb hf hs hc hq hg hd
      exact ⟨wantedT (d := 77) rfl rfl (by rw [hb.size, hsz]; omega) (hd 8 (by kernel_rfl) 77 rfl), k_val (.string (str (List.replicate 16 98))) (by decide) trivial (x_conv rfl (hd 9 (by kernel_rfl) 78 rfl) (conv_rd (P := Try.prog) ((unhide X18).rd.kept hf (fun _ _ h => h)) 36 9 5 Try.underlying36 Try.underlying5 Try.underlying9)) rfl⟩
    refine ⟨?_, ?_⟩
    · intro a' w' k' hb hf hs hc hq hg hd
      exact ⟨wantedT (d := 77) rfl rfl (by rw [hb.size, hsz]; omega) (hd 8 (by kernel_rfl) 77 rfl), k_call 28 _ (by decide) (e_call2 rfl rfl rfl rfl cf28) ((full_any _ 16 98 (by omega)).mono (by rintro e w7 ⟨rfl, hB, f⟩; exact ⟨_, rfl, hB.rd (by simp [maxLen]), f, trivial⟩))⟩
    refine ⟨?_, ?_⟩
    · intro a' w' k' hb hf hs hc hq hg hd
      have hh : Rd w' _ _ := (hd 11 (by kernel_rfl) 80 rfl); exact ⟨wantedT (d := 77) rfl rfl (by rw [hb.size, hsz]; omega) (hd 8 (by kernel_rfl) 77 rfl), k_val (.string (str (List.replicate 16 98))) (by decide) trivial (x_conv rfl rfl (conv_rd (P := Try.prog) hh 36 9 5 Try.underlying36 Try.underlying5 Try.underlying9)) rfl⟩
    refine ⟨?_, ?_⟩
    · intro a' w' k' hb hf hs hc hq hg hd
      exact ⟨wantedT (d := 77) rfl rfl (by rw [hb.size, hsz]; omega) (hd 8 (by kernel_rfl) 77 rfl), k_val (.bool true) (by decide) trivial (x_eqS rfl (hd 10 (by kernel_rfl) 79 rfl) (hd 12 (by kernel_rfl) 81 rfl)) rfl⟩
    refine ⟨?_, ?_⟩
    · intro a' w' k' hb hf hs hc hq hg hd
      exact ⟨wantedN rfl, k_val (.bool true) (by decide) trivial (x_pickT rfl (hd 8 (by kernel_rfl) 77 rfl) (hd 13 (by kernel_rfl) 82 rfl)) rfl⟩
    refine ⟨?_, ?_⟩
    · intro a' w' k' hb hf hs hc hq hg hd
      exact ⟨wantedN rfl, k_val (.bool true) (by decide) trivial (x_move rfl (hd 14 (by kernel_rfl) 83 rfl)) rfl⟩
    refine ⟨?_, ?_⟩
    · intro a' w' k' hb hf hs hc hq hg hd
      exact ⟨wantedT (d := 84) rfl rfl (by rw [hb.size, hsz]; omega) (hd 15 (by kernel_rfl) 84 rfl), k_val (.int .i64 0) (by decide) trivial (x_move rfl ((hb.old 6 (by decide +kernel)).trans h6)) rfl⟩
    refine ⟨?_, ?_⟩
    · intro a' w' k' hb hf hs hc hq hg hd
      exact ⟨wantedT (d := 84) rfl rfl (by rw [hb.size, hsz]; omega) (hd 15 (by kernel_rfl) 84 rfl), k_call 14 _ (by decide) (e_call1 rfl rfl (hd 16 (by kernel_rfl) 85 rfl) cf14) ((num_any _ _).mono (by rintro e w7 ⟨rfl, rfl⟩; exact ⟨_, rfl, rfl, Fr.refl _ _, trivial⟩))⟩
    refine ⟨?_, ?_⟩
    · intro a' w' k' hb hf hs hc hq hg hd
      exact ⟨wantedT (d := 84) rfl rfl (by rw [hb.size, hsz]; omega) (hd 15 (by kernel_rfl) 84 rfl), k_val (.bool true) (by decide) trivial (x_eqI Try.underlying3 rfl (hd 17 (by kernel_rfl) 86 rfl) rfl (by first | rfl | decide | simp)) rfl⟩
    refine ⟨?_, ?_⟩
    · intro a' w' k' hb hf hs hc hq hg hd
      exact ⟨wantedN rfl, k_val (.bool true) (by decide) trivial (x_pickT rfl (hd 15 (by kernel_rfl) 84 rfl) (hd 18 (by kernel_rfl) 87 rfl)) rfl⟩
    refine ⟨?_, ?_⟩
    · intro a' w' k' hb hf hs hc hq hg hd
      exact ⟨wantedN rfl, k_val (.bool true) (by decide) trivial (x_move rfl (hd 19 (by kernel_rfl) 88 rfl)) rfl⟩
    refine ⟨?_, ?_⟩
    · intro a' w' k' hb hf hs hc hq hg hd
      exact ⟨wantedT (d := 89) rfl rfl (by rw [hb.size, hsz]; omega) (hd 20 (by kernel_rfl) 89 rfl), k_val (.slice oY 16 cY) (by decide) trivial (x_move rfl ((hb.old 7 (by decide +kernel)).trans h7)) rfl⟩
    refine ⟨?_, ?_⟩
    · intro a' w' k' hb hf hs hc hq hg hd
      exact ⟨wantedT (d := 89) rfl rfl (by rw [hb.size, hsz]; omega) (hd 20 (by kernel_rfl) 89 rfl), k_val (.string (str (List.replicate 16 97))) (by decide) trivial (x_conv rfl (hd 21 (by kernel_rfl) 90 rfl) (conv_rd (P := Try.prog) ((unhide Y18).rd.kept hf (fun _ _ h => h)) 36 9 5 Try.underlying36 Try.underlying5 Try.underlying9)) rfl⟩
    refine ⟨?_, ?_⟩
    · intro a' w' k' hb hf hs hc hq hg hd
      exact ⟨wantedT (d := 89) rfl rfl (by rw [hb.size, hsz]; omega) (hd 20 (by kernel_rfl) 89 rfl), k_call 28 _ (by decide) (e_call2 rfl rfl rfl rfl cf28) ((full_any _ 16 97 (by omega)).mono (by rintro e w7 ⟨rfl, hB, f⟩; exact ⟨_, rfl, hB.rd (by simp [maxLen]), f, trivial⟩))⟩
    refine ⟨?_, ?_⟩
    · intro a' w' k' hb hf hs hc hq hg hd
      have hh : Rd w' _ _ := (hd 23 (by kernel_rfl) 92 rfl); exact ⟨wantedT (d := 89) rfl rfl (by rw [hb.size, hsz]; omega) (hd 20 (by kernel_rfl) 89 rfl), k_val (.string (str (List.replicate 16 97))) (by decide) trivial (x_conv rfl rfl (conv_rd (P := Try.prog) hh 36 9 5 Try.underlying36 Try.underlying5 Try.underlying9)) rfl⟩
    refine ⟨?_, ?_⟩
    · intro a' w' k' hb hf hs hc hq hg hd
      exact ⟨wantedT (d := 89) rfl rfl (by rw [hb.size, hsz]; omega) (hd 20 (by kernel_rfl) 89 rfl), k_val (.bool true) (by decide) trivial (x_eqS rfl (hd 22 (by kernel_rfl) 91 rfl) (hd 24 (by kernel_rfl) 93 rfl)) rfl⟩
    refine ⟨?_, ?_⟩
    · intro a' w' k' hb hf hs hc hq hg hd
      exact ⟨wantedN rfl, k_val (.bool true) (by decide) trivial (x_pickT rfl (hd 20 (by kernel_rfl) 89 rfl) (hd 25 (by kernel_rfl) 94 rfl)) rfl⟩
    refine ⟨?_, ?_⟩
    · intro a' w' k' hb hf hs hc hq hg hd
      exact ⟨wantedN rfl, k_val (.bool true) (by decide) trivial (x_move rfl (hd 26 (by kernel_rfl) 95 rfl)) rfl⟩
    refine ⟨?_, ?_⟩
    · intro a' w' k' hb hf hs hc hq hg hd
      exact ⟨wantedT (d := 96) rfl rfl (by rw [hb.size, hsz]; omega) (hd 27 (by kernel_rfl) 96 rfl), k_val (.int .i64 0) (by decide) trivial (x_move rfl ((hb.old 8 (by decide +kernel)).trans h8)) rfl⟩
    refine ⟨?_, ?_⟩
    · intro a' w' k' hb hf hs hc hq hg hd
      exact ⟨wantedT (d := 96) rfl rfl (by rw [hb.size, hsz]; omega) (hd 27 (by kernel_rfl) 96 rfl), k_call 14 _ (by decide) (e_call1 rfl rfl (hd 28 (by kernel_rfl) 97 rfl) cf14) ((num_any _ _).mono (by rintro e w7 ⟨rfl, rfl⟩; exact ⟨_, rfl, rfl, Fr.refl _ _, trivial⟩))⟩
    refine ⟨?_, ?_⟩
    · intro a' w' k' hb hf hs hc hq hg hd
      exact ⟨wantedT (d := 96) rfl rfl (by rw [hb.size, hsz]; omega) (hd 27 (by kernel_rfl) 96 rfl), k_val (.bool true) (by decide) trivial (x_eqI Try.underlying3 rfl (hd 29 (by kernel_rfl) 98 rfl) rfl (by first | rfl | decide | simp)) rfl⟩
    refine ⟨?_, ?_⟩
    · intro a' w' k' hb hf hs hc hq hg hd
      exact ⟨wantedN rfl, k_val (.bool true) (by decide) trivial (x_pickT rfl (hd 27 (by kernel_rfl) 96 rfl) (hd 30 (by kernel_rfl) 99 rfl)) rfl⟩
    refine ⟨?_, ?_⟩
    · intro a' w' k' hb hf hs hc hq hg hd
      exact ⟨wantedN rfl, k_val (.bool true) (by decide) trivial (x_move rfl (hd 31 (by kernel_rfl) 100 rfl)) rfl⟩
    refine ⟨?_, ?_⟩
    · intro a' w' k' hb hf hs hc hq hg hd
      exact ⟨wantedT (d := 101) rfl rfl (by rw [hb.size, hsz]; omega) (hd 32 (by kernel_rfl) 101 rfl), k_val (.int .i64 0) (by decide) trivial (x_move rfl ((hb.old 9 (by decide +kernel)).trans h9)) rfl⟩
    refine ⟨?_, ?_⟩
    · intro a' w' k' hb hf hs hc hq hg hd
      exact ⟨wantedT (d := 101) rfl rfl (by rw [hb.size, hsz]; omega) (hd 32 (by kernel_rfl) 101 rfl), k_call 14 _ (by decide) (e_call1 rfl rfl (hd 33 (by kernel_rfl) 102 rfl) cf14) ((num_any _ _).mono (by rintro e w7 ⟨rfl, rfl⟩; exact ⟨_, rfl, rfl, Fr.refl _ _, trivial⟩))⟩
    refine ⟨?_, ?_⟩
    · intro a' w' k' hb hf hs hc hq hg hd
      exact ⟨wantedT (d := 101) rfl rfl (by rw [hb.size, hsz]; omega) (hd 32 (by kernel_rfl) 101 rfl), k_val (.bool true) (by decide) trivial (x_eqI Try.underlying3 rfl (hd 34 (by kernel_rfl) 103 rfl) rfl (by first | rfl | decide | simp)) rfl⟩
    refine ⟨?_, ?_⟩
    · intro a' w' k' hb hf hs hc hq hg hd
      exact ⟨wantedN rfl, k_val (.bool true) (by decide) trivial (x_pickT rfl (hd 32 (by kernel_rfl) 101 rfl) (hd 35 (by kernel_rfl) 104 rfl)) rfl⟩
    refine ⟨?_, ?_⟩
    · intro a' w' k' hb hf hs hc hq hg hd
      exact ⟨wantedN rfl, k_val (.bool true) (by decide) trivial (x_move rfl (hd 36 (by kernel_rfl) 105 rfl)) rfl⟩
    refine ⟨?_, ?_⟩
    · intro a' w' k' hb hf hs hc hq hg hd
      exact ⟨wantedT (d := 106) rfl rfl (by rw [hb.size, hsz]; omega) (hd 37 (by kernel_rfl) 106 rfl), k_val (.int .i64 8) (by decide) trivial (x_move rfl ((hb.old 10 (by decide +kernel)).trans h10)) rfl⟩
    refine ⟨?_, ?_⟩
    · intro a' w' k' hb hf hs hc hq hg hd
      exact ⟨wantedT (d := 106) rfl rfl (by rw [hb.size, hsz]; omega) (hd 37 (by kernel_rfl) 106 rfl), k_call 14 _ (by decide) (e_call1 rfl rfl (hd 38 (by kernel_rfl) 107 rfl) cf14) ((num_any _ _).mono (by rintro e w7 ⟨rfl, rfl⟩; exact ⟨_, rfl, rfl, Fr.refl _ _, trivial⟩))⟩
    refine ⟨?_, ?_⟩
    · intro a' w' k' hb hf hs hc hq hg hd
      exact ⟨wantedT (d := 106) rfl rfl (by rw [hb.size, hsz]; omega) (hd 37 (by kernel_rfl) 106 rfl), k_val (.bool true) (by decide) trivial (x_eqI Try.underlying3 rfl (hd 39 (by kernel_rfl) 108 rfl) rfl (by first | rfl | decide | simp)) rfl⟩
    refine ⟨?_, ?_⟩
    · intro a' w' k' hb hf hs hc hq hg hd
      exact ⟨wantedN rfl, k_val (.bool true) (by decide) trivial (x_pickT rfl (hd 37 (by kernel_rfl) 106 rfl) (hd 40 (by kernel_rfl) 109 rfl)) rfl⟩
    refine ⟨?_, ?_⟩
    · intro a' w' k' hb hf hs hc hq hg hd
      exact ⟨wantedN rfl, k_val (.bool true) (by decide) trivial (x_move rfl (hd 41 (by kernel_rfl) 110 rfl)) rfl⟩
    refine ⟨?_, ?_⟩
    · intro a' w' k' hb hf hs hc hq hg hd
      exact ⟨wantedT (d := 111) rfl rfl (by rw [hb.size, hsz]; omega) (hd 42 (by kernel_rfl) 111 rfl), k_val (.slice (some ⟨bz, oz, none⟩) 16 cZ) (by decide) trivial (x_move rfl ((hb.old 11 (by decide +kernel)).trans h11)) rfl⟩
    refine ⟨?_, ?_⟩
    · intro a' w' k' hb hf hs hc hq hg hd
      exact ⟨wantedT (d := 111) rfl rfl (by rw [hb.size, hsz]; omega) (hd 42 (by kernel_rfl) 111 rfl), k_val (.int .i64 16) (by decide) trivial (x_len36 rfl (hd 43 (by kernel_rfl) 112 rfl)) rfl⟩
    refine ⟨?_, ?_⟩
    · intro a' w' k' hb hf hs hc hq hg hd
      exact ⟨wantedT (d := 111) rfl rfl (by rw [hb.size, hsz]; omega) (hd 42 (by kernel_rfl) 111 rfl), k_val (.bool true) (by decide) trivial (x_eqI Try.underlying3 rfl (hd 44 (by kernel_rfl) 113 rfl) rfl (by first | rfl | decide | simp)) rfl⟩
    refine ⟨?_, ?_⟩
    · intro a' w' k' hb hf hs hc hq hg hd
      exact ⟨wantedN rfl, k_val (.bool true) (by decide) trivial (x_pickT rfl (hd 42 (by kernel_rfl) 111 rfl) (hd 45 (by kernel_rfl) 114 rfl)) rfl⟩
    refine ⟨?_, ?_⟩
    · intro a' w' k' hb hf hs hc hq hg hd
      exact ⟨wantedN rfl, k_val (.bool true) (by decide) trivial (x_move rfl (hd 46 (by kernel_rfl) 115 rfl)) rfl⟩
    refine ⟨?_, ?_⟩
    · intro a' w' k' hb hf hs hc hq hg hd
      exact ⟨wantedT (d := 116) rfl rfl (by rw [hb.size, hsz]; omega) (hd 47 (by kernel_rfl) 116 rfl), k_val (.slice (some ⟨bz, oz, none⟩) 16 cZ) (by decide) trivial (x_move rfl ((hb.old 11 (by decide +kernel)).trans h11)) rfl⟩
    refine ⟨?_, ?_⟩
    · intro a' w' k' hb hf hs hc hq hg hd
      exact ⟨wantedT (d := 116) rfl rfl (by rw [hb.size, hsz]; omega) (hd 47 (by kernel_rfl) 116 rfl), k_val (.pointer (some ⟨bz, oz, none⟩)) (by decide) trivial (x_index36 rfl (hd 48 (by kernel_rfl) 117 rfl) rfl) rfl⟩
    refine ⟨?_, ?_⟩
    · intro a' w' k' hb hf hs hc hq hg hd
      exact ⟨wantedT (d := 116) rfl rfl (by rw [hb.size, hsz]; omega) (hd 47 (by kernel_rfl) 116 rfl), k_val (.int .u8 1) (by decide) trivial (x_load1 ld5 rfl (hd 49 (by kernel_rfl) 118 rfl) ((hf.cell (a := ⟨bz, oz, none⟩) (World.block_lt_of_cell? _ _ (unhide ZC)) id).trans (unhide ZC))) rfl⟩
    refine ⟨?_, ?_⟩
    · intro a' w' k' hb hf hs hc hq hg hd
      exact ⟨wantedT (d := 116) rfl rfl (by rw [hb.size, hsz]; omega) (hd 47 (by kernel_rfl) 116 rfl), k_val (.bool true) (by decide) trivial (x_eqI Try.underlying5 rfl (hd 50 (by kernel_rfl) 119 rfl) rfl (by first | rfl | decide | simp)) rfl⟩
    refine ⟨?_, ?_⟩
    · intro a' w' k' hb hf hs hc hq hg hd
      exact ⟨wantedN rfl, k_val (.bool true) (by decide) trivial (x_pickT rfl (hd 47 (by kernel_rfl) 116 rfl) (hd 51 (by kernel_rfl) 120 rfl)) rfl⟩
    refine ⟨?_, ?_⟩
    · intro a' w' k' hb hf hs hc hq hg hd
      exact ⟨wantedN rfl, k_val (.bool true) (by decide) trivial (x_move rfl (hd 52 (by kernel_rfl) 121 rfl)) rfl⟩
    refine ⟨?_, ?_⟩
    · intro a' w' k' hb hf hs hc hq hg hd
      exact ⟨wantedT (d := 122) rfl rfl (by rw [hb.size, hsz]; omega) (hd 53 (by kernel_rfl) 122 rfl), k_val (.int .i64 0) (by decide) trivial (x_move rfl ((hb.old 13 (by decide +kernel)).trans h13)) rfl⟩
    refine ⟨?_, ?_⟩
    · intro a' w' k' hb hf hs hc hq hg hd
      exact ⟨wantedT (d := 122) rfl rfl (by rw [hb.size, hsz]; omega) (hd 53 (by kernel_rfl) 122 rfl), k_call 14 _ (by decide) (e_call1 rfl rfl (hd 54 (by kernel_rfl) 123 rfl) cf14) ((num_any _ _).mono (by rintro e w7 ⟨rfl, rfl⟩; exact ⟨_, rfl, rfl, Fr.refl _ _, trivial⟩))⟩
    refine ⟨?_, ?_⟩
    · intro a' w' k' hb hf hs hc hq hg hd
      exact ⟨wantedT (d := 122) rfl rfl (by rw [hb.size, hsz]; omega) (hd 53 (by kernel_rfl) 122 rfl), k_val (.bool true) (by decide) trivial (x_eqI Try.underlying3 rfl (hd 55 (by kernel_rfl) 124 rfl) rfl (by first | rfl | decide | simp)) rfl⟩
    refine ⟨?_, ?_⟩
    · intro a' w' k' hb hf hs hc hq hg hd
      exact ⟨wantedN rfl, k_val (.bool true) (by decide) trivial (x_pickT rfl (hd 53 (by kernel_rfl) 122 rfl) (hd 56 (by kernel_rfl) 125 rfl)) rfl⟩
    refine ⟨?_, ?_⟩
    · intro a' w' k' hb hf hs hc hq hg hd
      exact ⟨wantedN rfl, k_val (.bool true) (by decide) trivial (x_move rfl (hd 57 (by kernel_rfl) 126 rfl)) rfl⟩
    refine ⟨?_, ?_⟩
    · intro a' w' k' hb hf hs hc hq hg hd
      exact ⟨wantedT (d := 127) rfl rfl (by rw [hb.size, hsz]; omega) (hd 58 (by kernel_rfl) 127 rfl), k_val (.int .i64 42) (by decide) trivial (x_move rfl ((hb.old 15 (by decide +kernel)).trans h15)) rfl⟩
    refine ⟨?_, ?_⟩
    · intro a' w' k' hb hf hs hc hq hg hd
      exact ⟨wantedT (d := 127) rfl rfl (by rw [hb.size, hsz]; omega) (hd 58 (by kernel_rfl) 127 rfl), k_call 14 _ (by decide) (e_call1 rfl rfl (hd 59 (by kernel_rfl) 128 rfl) cf14) ((num_any _ _).mono (by rintro e w7 ⟨rfl, rfl⟩; exact ⟨_, rfl, rfl, Fr.refl _ _, trivial⟩))⟩
    refine ⟨?_, ?_⟩
    · intro a' w' k' hb hf hs hc hq hg hd
      exact ⟨wantedT (d := 127) rfl rfl (by rw [hb.size, hsz]; omega) (hd 58 (by kernel_rfl) 127 rfl), k_val (.bool true) (by decide) trivial (x_eqI Try.underlying3 rfl (hd 60 (by kernel_rfl) 129 rfl) rfl (by first | rfl | decide | simp)) rfl⟩
    refine ⟨?_, ?_⟩
    · intro a' w' k' hb hf hs hc hq hg hd
      exact ⟨wantedN rfl, k_val (.bool true) (by decide) trivial (x_pickT rfl (hd 58 (by kernel_rfl) 127 rfl) (hd 61 (by kernel_rfl) 130 rfl)) rfl⟩
    refine ⟨?_, ?_⟩
    · intro a' w' k' hb hf hs hc hq hg hd
      exact ⟨wantedN rfl, k_val (.bool true) (by decide) trivial (x_move rfl (hd 62 (by kernel_rfl) 131 rfl)) rfl⟩
    refine ⟨?_, ?_⟩
    · intro a' w' k' hb hf hs hc hq hg hd
      exact ⟨wantedT (d := 132) rfl rfl (by rw [hb.size, hsz]; omega) (hd 63 (by kernel_rfl) 132 rfl), k_val (.int .i64 0) (by decide) trivial (x_move rfl ((hb.old 16 (by decide +kernel)).trans h16)) rfl⟩
    refine ⟨?_, ?_⟩
    · intro a' w' k' hb hf hs hc hq hg hd
      exact ⟨wantedT (d := 132) rfl rfl (by rw [hb.size, hsz]; omega) (hd 63 (by kernel_rfl) 132 rfl), k_call 14 _ (by decide) (e_call1 rfl rfl (hd 64 (by kernel_rfl) 133 rfl) cf14) ((num_any _ _).mono (by rintro e w7 ⟨rfl, rfl⟩; exact ⟨_, rfl, rfl, Fr.refl _ _, trivial⟩))⟩
    refine ⟨?_, ?_⟩
    · intro a' w' k' hb hf hs hc hq hg hd
      exact ⟨wantedT (d := 132) rfl rfl (by rw [hb.size, hsz]; omega) (hd 63 (by kernel_rfl) 132 rfl), k_val (.bool true) (by decide) trivial (x_eqI Try.underlying3 rfl (hd 65 (by kernel_rfl) 134 rfl) rfl (by first | rfl | decide | simp)) rfl⟩
    refine ⟨?_, ?_⟩
    · intro a' w' k' hb hf hs hc hq hg hd
      exact ⟨wantedN rfl, k_val (.bool true) (by decide) trivial (x_pickT rfl (hd 63 (by kernel_rfl) 132 rfl) (hd 66 (by kernel_rfl) 135 rfl)) rfl⟩
    refine ⟨?_, ?_⟩
    · intro a' w' k' hb hf hs hc hq hg hd
      exact ⟨wantedN rfl, k_val (.bool true) (by decide) trivial (x_move rfl (hd 67 (by kernel_rfl) 136 rfl)) rfl⟩
    refine ⟨?_, ?_⟩
    · intro a' w' k' hb hf hs hc hq hg hd
      exact ⟨wantedT (d := 137) rfl rfl (by rw [hb.size, hsz]; omega) (hd 68 (by kernel_rfl) 137 rfl), k_val (.int .i64 0) (by decide) trivial (x_move rfl ((hb.old 17 (by decide +kernel)).trans h17)) rfl⟩
    refine ⟨?_, ?_⟩
    · intro a' w' k' hb hf hs hc hq hg hd
      exact ⟨wantedT (d := 137) rfl rfl (by rw [hb.size, hsz]; omega) (hd 68 (by kernel_rfl) 137 rfl), k_call 14 _ (by decide) (e_call1 rfl rfl (hd 69 (by kernel_rfl) 138 rfl) cf14) ((num_any _ _).mono (by rintro e w7 ⟨rfl, rfl⟩; exact ⟨_, rfl, rfl, Fr.refl _ _, trivial⟩))⟩
    refine ⟨?_, ?_⟩
    · intro a' w' k' hb hf hs hc hq hg hd
      exact ⟨wantedT (d := 137) rfl rfl (by rw [hb.size, hsz]; omega) (hd 68 (by kernel_rfl) 137 rfl), k_val (.bool true) (by decide) trivial (x_eqI Try.underlying3 rfl (hd 70 (by kernel_rfl) 139 rfl) rfl (by first | rfl | decide | simp)) rfl⟩
    refine ⟨?_, ?_⟩
    · intro a' w' k' hb hf hs hc hq hg hd
      exact ⟨wantedN rfl, k_val (.bool true) (by decide) trivial (x_pickT rfl (hd 68 (by kernel_rfl) 137 rfl) (hd 71 (by kernel_rfl) 140 rfl)) rfl⟩
    refine ⟨?_, ?_⟩
    · intro a' w' k' hb hf hs hc hq hg hd
      exact ⟨wantedN rfl, k_val (.bool true) (by decide) trivial (x_move rfl (hd 72 (by kernel_rfl) 141 rfl)) rfl⟩
    refine ⟨?_, ?_⟩
    · intro a' w' k' hb hf hs hc hq hg hd
      exact ⟨wantedT (d := 142) rfl rfl (by rw [hb.size, hsz]; omega) (hd 73 (by kernel_rfl) 142 rfl), k_val (.pointer (some ⟨p, 0, none⟩)) (by decide) trivial (x_move rfl ((hb.old 1 (by decide +kernel)).trans h1)) rfl⟩
    refine ⟨?_, ?_⟩
    · intro a' w' k' hb hf hs hc hq hg hd
      exact ⟨wantedT (d := 142) rfl rfl (by rw [hb.size, hsz]; omega) (hd 73 (by kernel_rfl) 142 rfl), k_call 26 _ (by decide) (e_call1 rfl rfl (hd 74 (by kernel_rfl) 143 rfl) cf26) ((injured_any _ p gs q18 lv8 ((unhide N18).k.kept hf id id (fun _ _ h => h))).mono (by rintro e w7 ⟨⟨ao, c, rfl, ho, hb7⟩, f⟩; rw [lv_in] at ho ⊢; exact ⟨_, rfl, RdV.of_owns (l := ([0] : List Int).map (Value.int .i64)) ho, f, trivial⟩))⟩
    refine ⟨?_, ?_⟩
    · intro a' w' k' hb hf hs hc hq hg hd
      exact ⟨wantedT (d := 142) rfl rfl (by rw [hb.size, hsz]; omega) (hd 73 (by kernel_rfl) 142 rfl), k_new _ _ (by decide) trivial ((Fr.refl _ _).alloc _) (x_bs37 rfl rfl) (rdv_one w')⟩
    refine ⟨?_, ?_⟩
    · intro a' w' k' hb hf hs hc hq hg hd
      have hh1 : RdV w' _ _ := (hd 75 (by kernel_rfl) 144 rfl); have hh2 : RdV w' _ _ := (hd 76 (by kernel_rfl) 145 rfl); exact ⟨wantedT (d := 142) rfl rfl (by rw [hb.size, hsz]; omega) (hd 73 (by kernel_rfl) 142 rfl), k_call 30 _ (by decide) (e_call2 rfl rfl rfl rfl cf30) ((ints_any _ _ _ [0] [0] hh1 hh2).mono (by rintro e w7 ⟨rfl, n7, rfl⟩; exact ⟨_, rfl, rfl, Fr.ofDrewN _ _, trivial⟩))⟩
    refine ⟨?_, ?_⟩
    · intro a' w' k' hb hf hs hc hq hg hd
      exact ⟨wantedN rfl, k_val (.bool true) (by decide) trivial (x_pickT rfl (hd 73 (by kernel_rfl) 142 rfl) (hd 77 (by kernel_rfl) 146 rfl)) rfl⟩
    refine ⟨?_, ?_⟩
    · intro a' w' k' hb hf hs hc hq hg hd
      exact ⟨wantedN rfl, k_val (.bool true) (by decide) trivial (x_move rfl (hd 78 (by kernel_rfl) 147 rfl)) rfl⟩
    refine ⟨?_, ?_⟩
    · intro a' w' k' hb hf hs hc hq hg hd
      exact ⟨wantedT (d := 148) rfl rfl (by rw [hb.size, hsz]; omega) (hd 79 (by kernel_rfl) 148 rfl), k_val (.pointer (some ⟨p, 0, none⟩)) (by decide) trivial (x_move rfl ((hb.old 1 (by decide +kernel)).trans h1)) rfl⟩
    refine ⟨?_, ?_⟩
    · intro a' w' k' hb hf hs hc hq hg hd
      exact ⟨wantedT (d := 148) rfl rfl (by rw [hb.size, hsz]; omega) (hd 79 (by kernel_rfl) 148 rfl), k_call 35 _ (by decide) (e_call1 rfl rfl (hd 80 (by kernel_rfl) 149 rfl) cf35) ((writes_any _ p gs q18 lv8 ((unhide N18).k.kept hf id id (fun _ _ h => h))).mono (by rintro e w7 ⟨rfl, rfl⟩; rw [lv_wr]; exact ⟨_, rfl, rfl, Fr.refl _ _, trivial⟩))⟩
    refine ⟨?_, ?_⟩
    · intro a' w' k' hb hf hs hc hq hg hd
      exact ⟨wantedT (d := 148) rfl rfl (by rw [hb.size, hsz]; omega) (hd 79 (by kernel_rfl) 148 rfl), k_val (.bool true) (by decide) trivial (x_eqI Try.underlying3 rfl (hd 81 (by kernel_rfl) 150 rfl) rfl (by first | rfl | decide | simp)) rfl⟩
    refine ⟨?_, ?_⟩
    · intro a' w' k' hb hf hs hc hq hg hd
      exact ⟨wantedN rfl, k_val (.bool true) (by decide) trivial (x_pickT rfl (hd 79 (by kernel_rfl) 148 rfl) (hd 82 (by kernel_rfl) 151 rfl)) rfl⟩
    refine ⟨?_, ?_⟩
    · intro a' w' k' hb hf hs hc hq hg hd
      exact ⟨wantedN rfl, k_val (.bool true) (by decide) trivial (x_assign rfl (hd 83 (by kernel_rfl) 152 rfl)) rfl⟩
    exact trivial
  case done =>
    intro a' w' hb hf hs hall
    have hres : a'.tmps.getD 0 undef = .bool true := hall 84 (by decide) 0 rfl
    have hdf' : a'.defers = [] := by rw [hb.defers]; exact hdf
    have hF : Fr (fun _ => False) w w' := (unhide N18).f.trans hf (fun _ _ h => h)
    have hr : bodyPost Try.prog Try.f11 (fun e w' => e = Ending.returned (Value.bool true) ∧ Fr (fun x => False) w w') .ret a' w' :=
      bodyPost_ret (v := .bool true) (by
        have h6' : a'.tmps[0]?.getD undef = .bool true := by simpa using hres
        simp [results, Try.results11, go_sem, h6']) hdf' ⟨rfl, hF⟩
    clear hall hb
    apply_assumption
    exact wp_ret hr
end Go.Proofs.Ytdhendcogjhgfaa
