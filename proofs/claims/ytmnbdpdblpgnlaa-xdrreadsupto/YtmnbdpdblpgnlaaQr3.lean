/-
  The walks of the document's own reader, on: bytes, Fixed, Opaque, Hyper.
-/
import Derived.Test.YtmnbdpdblpgnlaaQr2
import Derived.Deep.RegionHeld3
namespace Go.Proofs.Ytmnbdpdblpgnlaa
open Go.RowKit
set_option linter.unusedVariables false

attribute [local go_sem ↓] Go.wp_at_zero Go.wp_at_succ

theorem qbytes_no (w : World) (p : Nat) (E n a : Int) (h : w.cell? ⟨p, 2, none⟩ = some (.int .i64 E)) (hn : E ≠ 0 ∨ n ≤ 0) : Calls Try.prog 78 #[.pointer (some ⟨p, 0, none⟩), .int .i64 n, .int .i64 a] w fun e w' => e = .returned (.slice none 0 0) ∧ w = w' := by
  by_cases hE : E = 0
  · subst hE
    have hn' : n ≤ 0 := by rcases hn with h | h; exact absurd rfl h; exact h
    go_enter Try.func78, Try.ntmps78
    go_wp2
    go_ret
    exact ⟨rfl, rfl⟩
  · have hb : (E != 0) = true := by simpa using hE
    go_enter Try.func78, Try.ntmps78
    go_wp2
    go_ret
    exact ⟨rfl, rfl⟩

theorem pad_mod (n pd : Nat) (h : (4 - n % 4) % 4 = pd) (hn : n ≤ 9223372036854775807) : (4 - (n : Int) % 4) % 4 = (pd : Int) := by omega

set_option maxHeartbeats 800000 in
set_option maxRecDepth 100000 in
theorem qbytes_short (w : World) (p : Nat) (q : Option Nat) (D : List UInt8) (at' n fr : Nat) (h : QAt w p q D at' 0) (hn0 : 0 < n) (hn : n ≤ 9223372036854775807) (hD : D.length ≤ 1099511627776) (hs : D.length - at' < n + (4 - n % 4) % 4) (hfr : fr ≤ D.length) :
    Calls Try.prog 78 #[.pointer (some ⟨p, 0, none⟩), .int .i64 (n : Int), .int .i64 (fr : Int)] w fun e w' => e = .returned (.slice none 0 0) ∧ QAt w' p q D fr 3 ∧ Fr (fun k => k = p) w w' := by
  obtain ⟨v, h1, h2, h3, h5⟩ := id h
  obtain ⟨ao, cap, rfl⟩ := owns_shape h3
  have c0 := QAt.cell0 h1
  have c1 := QAt.cell1 h1
  have c2 := QAt.cell2 h1
  clear h1 h2 h3
  obtain ⟨pd, hpd, hpd4⟩ : ∃ pd, (4 - n % 4) % 4 = pd ∧ pd < 4 := ⟨_, rfl, Nat.mod_lt _ (by omega)⟩
  have hpm := pad_mod n pd hpd hn
  rw [hpd] at hs
  have HPD := hide hpd
  clear hpd
  have HL := hide (fun (W : World) (hq : Qt w W) => qleft_any W p at' D.length ao cap (by rw [World.cell?_of_block (w := w) (by rw [hq.heap])]; exact c0) (by rw [World.cell?_of_block (w := w) (by rw [hq.heap])]; exact c1) h5 (by unfold maxLen; omega))
  have HF := hide (fun (W : World) (hq : Qt w W) => qfail_ok W p q D at' 3 fr (h.kept (hq.fr (fun _ => False)) id (fun _ _ h => h)) hfr (by omega))
  by_cases hc : (D.length : Int) - (at' : Int) < (n : Int)
  · go_enter Try.func78, Try.ntmps78
    go_wp2_with fail
    refine (unhide HL _ (Qt.refl _)).mono ?_
    rintro e w1 ⟨rfl, q1⟩
    go_wp2_with fail
    refine (unhide HF _ q1).mono ?_
    rintro e w2 ⟨rfl, r2, f2⟩
    go_wp2_with fail
    go_ret
    exact ⟨rfl, r2, (q1.fr _).trans f2 (fun _ _ h => h)⟩
  · have hc2 : (D.length : Int) - (at' : Int) < (n : Int) + (pd : Int) := by omega
    go_enter Try.func78, Try.ntmps78
    go_wp2_with fail
    refine (unhide HL _ (Qt.refl _)).mono ?_
    rintro e w1 ⟨rfl, q1⟩
    go_wp2_with fail
    refine (unhide HL _ q1).mono ?_
    rintro e w2 ⟨rfl, q2⟩
    go_wp2_with fail
    refine (unhide HF _ (q1.trans q2)).mono ?_
    rintro e w3 ⟨rfl, r3, f3⟩
    go_wp2_with fail
    go_ret
    exact ⟨rfl, r3, ((q1.trans q2).fr _).trans f3 (fun _ _ h => h)⟩

set_option maxHeartbeats 1600000 in
set_option maxRecDepth 100000 in
theorem qbytes_ok (w : World) (p : Nat) (q : Option Nat) (D : List UInt8) (at' n fr : Nat) (h : QAt w p q D at' 0) (hn0 : 0 < n) (hD : D.length ≤ 1099511627776) (hs : n + (4 - n % 4) % 4 ≤ D.length - at') (hz : (D.drop (at' + n)).take ((4 - n % 4) % 4) = pad n) :
    Calls Try.prog 78 #[.pointer (some ⟨p, 0, none⟩), .int .i64 (n : Int), .int .i64 (fr : Int)] w fun e w' => ∃ v, e = .returned v ∧ w'.ownsRow 0 5 1 v n (bvs ((D.drop at').take n)) ∧ (∀ k, v.ownBlock = some k → w.heap.size ≤ k) ∧ QAt w' p q D (at' + n + (4 - n % 4) % 4) 0 ∧ Fr (fun k => k = p) w w' := by
  obtain ⟨v, h1, h2, h3, h5⟩ := id h
  obtain ⟨g, cap, rfl⟩ : ∃ g cap, v = .slice (some ⟨g, 0, none⟩) D.length cap := by
    rcases h3.2 with ⟨_, e⟩ | ⟨g, cap, _, e, _⟩
    · omega
    · exact ⟨g, cap, e⟩
  have hcap : D.length ≤ cap ∧ cap ≤ maxLen := by
    rcases h3.2 with ⟨e, _⟩ | ⟨_, _, _, e, _, _, h6, h7, _⟩
    · simp at e
    · simp at e; obtain ⟨_, rfl⟩ := e; exact ⟨h6, h7⟩
  have hcm := hcap.2
  unfold maxLen at hcm
  have hc1 := hcap.1
  clear hcap
  have c0 := QAt.cell0 h1
  have c1 := QAt.cell1 h1
  have c2 := QAt.cell2 h1
  obtain ⟨pd, hpd, hpd4⟩ : ∃ pd, (4 - n % 4) % 4 = pd ∧ pd < 4 := ⟨_, rfl, Nat.mod_lt _ (by omega)⟩
  have hpm := pad_mod n pd hpd (by omega)
  have hzb : ∀ j, j < pd → w.cell? ⟨g, at' + n + j, none⟩ = some (.int .u8 0) := by
    intro j hj
    have hlt : at' + n + j < D.length := by omega
    have hc := h3.cellAt (at' + n + j) (by omega)
    rw [hc, bvs_get D _ hlt]
    have hg : ((D.drop (at' + n)).take pd)[j]? = some 0 := by
      rw [← hpd, hz]; unfold pad; rw [hpd]; simp [hj]
    rw [List.getElem?_take, if_pos hj, List.getElem?_drop, List.getElem?_eq_getElem hlt] at hg
    simp at hg
    rw [hg]; rfl
  rw [hpd] at hs ⊢
  have HZB := hide hzb
  have HPD := hide hpd
  clear hz hzb hpd
  have HL := hide (fun (W : World) (hq : Qt w W) => qleft_any W p at' D.length _ cap (by rw [World.cell?_of_block (w := w) (by rw [hq.heap])]; exact c0) (by rw [World.cell?_of_block (w := w) (by rw [hq.heap])]; exact c1) h5 (by unfold maxLen; omega))
  have KC0 := hide (fun (W : World) (hq : Qt w W) => show W.cell? ⟨p, 0, none⟩ = some (.slice (some ⟨g, 0, none⟩) D.length cap) by rw [World.cell?_of_block (w := w) (by rw [hq.heap])]; exact c0)
  have KC1 := hide (fun (W : World) (hq : Qt w W) => show W.cell? ⟨p, 1, none⟩ = some (.int .i64 (at' : Int)) by rw [World.cell?_of_block (w := w) (by rw [hq.heap])]; exact c1)
  obtain ⟨i, hi, hz0, hz1, hz2⟩ := info_parts Try.info5
  have hln : ((D.drop at').take n).length = n := by simp; omega
  have HLN := hide hln
  have hsr : ∀ W : World, Qt w W → ∀ o, Sr (W.alloc o) 1 (.slice (some ⟨g, at', none⟩) n (cap - at')) n (bvs ((D.drop at').take n)) := by
    intro W hq o
    have hr : Rd w (.slice (some ⟨g, at', none⟩) n (cap - at')) ((D.drop at').take n) := by
      refine Rd.lit hln (by omega) (by unfold maxLen; omega) fun j hj => ?_
      rw [World.ownsRow.cellAt h3 (at' + j) (by omega), bvs_get D _ (by omega)]
      simp
    have := ((hr.kept (hq.fr (fun _ => False)) (fun _ _ h => h)).kept ((Fr.refl (fun _ => False) W).alloc o) (fun _ _ h => h)).sr
    rwa [hln] at this
  have HSR := hide hsr
  have H1 := hide h1
  have H3 := hide h3
  have HH := hide h
  have hpl := lt_of_heap h1
  have hgl : g < w.heap.size := (h3.lt g rfl).2
  have hgp : ¬ g = p := fun e => QAt.apart h1 h3 (by simp [Value.ownBlock, e])
  clear h1 h3 h hsr hln
  have hs1 : ¬ (D.length : Int) - (at' : Int) < (n : Int) := by omega
  have hs2 : ¬ (D.length : Int) - (at' : Int) < (n : Int) + (pd : Int) := by omega
  have i1 : (0 : Int) ≤ (at' : Int) := by omega
  have i2 : (at' : Int) ≤ (at' : Int) + (n : Int) := by omega
  have i3 : (at' : Int) + (n : Int) ≤ (cap : Int) := by omega
  have i4 : ¬ cap = at' := by omega
  have hwr : IntKind.i64.wrap ((at' : Int) + (n : Int)) = (at' : Int) + (n : Int) := by simp only [IntKind.wrap, IntKind.bits, IntKind.signed]; simp; omega
  have i5 : ((at' : Int) + (n : Int)).toNat - at' = n := by omega
  have i6 : at' + n - at' = n := by omega
  go_enter Try.func78, Try.ntmps78
  go_wp2_with fail
  refine (unhide HL _ (Qt.refl _)).mono ?_
  rintro e w1 ⟨rfl, q1⟩
  go_wp2_with fail
  refine (unhide HL _ q1).mono ?_
  rintro e w2 ⟨rfl, q2⟩
  have Q2 := hide (q1.trans q2)
  have e0 := unhide KC0 _ (unhide Q2)
  have e1 := unhide KC1 _ (unhide Q2)
  have z2 : w2.heap.size = w.heap.size := by rw [(unhide Q2).heap]
  have Z2 := hide z2
  clear c0 c1 c2 q1 q2 z2
  have n0 := World.new_ne w2 ⟨p, 0, none⟩ e0
  have n1 := World.new_ne w2 ⟨p, 1, none⟩ e1
  go_wp2_with fail
  go_region_held3 (fun W => W.cell? ⟨p, 0, none⟩ = some (.slice (some ⟨g, 0, none⟩) D.length cap) ∧ W.cell? ⟨p, 1, none⟩ = some (.int .i64 (at' : Int))) (go_keep) ((refine step_app rfl (.tmp 38) (.tmp 53) 28 rfl 5 i _ 1 1 Try.underlying28 hi hz0 hz1 hz2 rfl (by decide) (.slice (some ⟨w2.heap.size, 0, none⟩) 0 0) 0 [] (by rfl) (.slice (some ⟨g, at', none⟩) n (cap - at')) (by rfl) n (bvs ((D.drop at').take n)) (by exact ⟨rfl, .inr ⟨w2.heap.size, 0, #[], rfl, Nat.zero_le _, heap_alloc_new w2 _, Nat.le_refl _, by simp [maxLen], rfl, rfl⟩⟩) (by exact unhide HSR _ (unhide Q2) _) (bvs_one _) (by omega) (by simp only [maxLen]; omega) ?_; intro ao8 cap8 w8 ho8 hg8 hpl8; have f8 : Fr (fun _ => False) w w8 := Fr.grown (S := fun _ => False) (a := w) (by exact (((unhide Q2).fr (fun _ => False)).alloc (Obj.cells #[] 5)).drew) hg8 (fun k hk e => by simp [Value.ownBlock] at e; have := unhide Z2; omega); have k80 := (f8.cell (a := ⟨p, 0, none⟩) hpl id).trans (unhide KC0 _ (Qt.refl _)); have k81 := (f8.cell (a := ⟨p, 1, none⟩) hpl id).trans (unhide KC1 _ (Qt.refl _))))
  have hn8 : ∀ k, (Value.slice ao8 (0 + n) cap8).ownBlock = some k → w.heap.size ≤ k := by
    intro k hk
    rcases hpl8 with e | ⟨k', e, hk'⟩
    · rw [e] at hk; simp [Value.ownBlock] at hk; have := unhide Z2; omega
    · rw [e] at hk; simp at hk hk'; have := unhide Z2; omega
  simp only [Nat.zero_add, List.nil_append] at ho8 hn8
  have HO8 := hide ho8
  have HN8 := hide hn8
  have F8 := hide f8
  have K8 := hide ((unhide HH).kept f8 id (fun _ _ h => h))
  clear ho8 hn8 hpl8 hg8 f8 n0 n1 e0 e1
  go_wp2_with fail
  go_loopw [9] (fun j w' => ∃ k : Nat, k ≤ pd ∧ j = .int .i64 k ∧ Qt w8 w') (fun j _ => pd - (intOf j).toNat)
  case atStart => exact ⟨0, Nat.zero_le _, rfl, Qt.refl _⟩
  case round =>
    obtain ⟨k, hk, rfl, q9⟩ := hrel
    have m0 : wr.cell? ⟨p, 0, none⟩ = some (.slice (some ⟨g, 0, none⟩) D.length cap) := by rw [World.cell?_of_block (w := w8) (by rw [q9.heap])]; exact k80
    have m1 : wr.cell? ⟨p, 1, none⟩ = some (.int .i64 (at' : Int)) := by rw [World.cell?_of_block (w := w8) (by rw [q9.heap])]; exact k81
    by_cases hlt : k < pd
    · have mk : wr.cell? ⟨g, at' + n + k, none⟩ = some (.int .u8 0) := by
        rw [World.cell?_of_block (w := w8) (by rw [q9.heap]), (unhide F8).cell (a := ⟨g, at' + n + k, none⟩) hgl id]
        exact unhide HZB k hlt
      have j1 : (0 : Int) ≤ (at' : Int) + (n : Int) + (k : Int) := by omega
      have j2 : (at' : Int) + (n : Int) + (k : Int) < (D.length : Int) := by omega
      have hwk : IntKind.i64.wrap ((at' : Int) + (n : Int) + (k : Int)) = (at' : Int) + (n : Int) + (k : Int) := by simp only [IntKind.wrap, IntKind.bits, IntKind.signed]; simp; omega
      clear k80 k81
      go_wp2_with fail
      go_quiet (fail)
      go_wp2_with fail
      go_roundw
      case rel => exact ⟨k + 1, by omega, by go_num, q9.trans (Qt.drewN _ _)⟩
      case measure => simp [intOf]; omega
    · have hkk : k = pd := by omega
      subst hkk
      have y1 : wr.frozen? ⟨p, 1, none⟩ = false := by
        rw [World.frozen?_of_block (w := w8) (by rw [q9.heap]), (unhide F8).frozen (a := ⟨p, 1, none⟩) hpl id]
        exact frozen_of_heap (unhide H1) 1
      clear k80 k81
      go_wp2_with fail
      go_ret
      obtain ⟨v9, hp9, hq9, ho9, _⟩ := unhide K8
      have e9 : wr.heap[p]? = some (.cells #[v9, .int .i64 (at' : Int), .int .i64 0, .int .i64 (spot at' 0)] 49 (0, 0)) := by rw [q9.heap]; exact hp9
      have ff : Fr (fun k => k = p) w8 (wr.setCell ⟨p, 1, none⟩ (.int .i64 ((at' : Int) + (n : Int) + (k : Int)))) := (q9.fr (fun k => k = p)).setCell (fun _ => rfl) _
      refine ⟨_, rfl, owns_kept (unhide HO8) ff (fun j hj e => by have := unhide HN8 j hj; omega), unhide HN8, QAt.put hp9 hq9 ho9 _ (at' + n + k) 0 ?_ ff (by omega), ((unhide F8).mono (fun _ _ h => h.elim)).trans ff (fun _ _ h => h)⟩
      exact heap_setCell_same wr p 1 _ 49 _ e9

set_option maxHeartbeats 1600000 in
set_option maxRecDepth 100000 in
theorem qbytes_pad (w : World) (p : Nat) (q : Option Nat) (D : List UInt8) (at' n fr : Nat) (h : QAt w p q D at' 0) (hn0 : 0 < n) (hD : D.length ≤ 1099511627776) (hs : n + (4 - n % 4) % 4 ≤ D.length - at') (hfr : fr ≤ D.length)
    (k0 : Nat) (hk0 : k0 < (4 - n % 4) % 4) (hbz : ∀ j (hj : j < D.length), at' + n ≤ j → j < at' + n + k0 → D[j] = 0) (hb0 : ∀ hj : at' + n + k0 < D.length, D[at' + n + k0] ≠ 0) :
    Calls Try.prog 78 #[.pointer (some ⟨p, 0, none⟩), .int .i64 (n : Int), .int .i64 (fr : Int)] w fun e w' => e = .returned (.slice none 0 0) ∧ QAt w' p q D fr 11 ∧ Fr (fun k => k = p) w w' := by
  obtain ⟨v, h1, h2, h3, h5⟩ := id h
  obtain ⟨g, cap, rfl⟩ : ∃ g cap, v = .slice (some ⟨g, 0, none⟩) D.length cap := by
    rcases h3.2 with ⟨_, e⟩ | ⟨g, cap, _, e, _⟩
    · omega
    · exact ⟨g, cap, e⟩
  have hcap : D.length ≤ cap ∧ cap ≤ maxLen := by
    rcases h3.2 with ⟨e, _⟩ | ⟨_, _, _, e, _, _, h6, h7, _⟩
    · simp at e
    · simp at e; obtain ⟨_, rfl⟩ := e; exact ⟨h6, h7⟩
  have hcm := hcap.2
  unfold maxLen at hcm
  have hc1 := hcap.1
  clear hcap
  have c0 := QAt.cell0 h1
  have c1 := QAt.cell1 h1
  have c2 := QAt.cell2 h1
  obtain ⟨pd, hpd, hpd4⟩ : ∃ pd, (4 - n % 4) % 4 = pd ∧ pd < 4 := ⟨_, rfl, Nat.mod_lt _ (by omega)⟩
  have hpm := pad_mod n pd hpd (by omega)
  rw [hpd] at hs hk0
  have hzb : ∀ j, j < k0 → w.cell? ⟨g, at' + n + j, none⟩ = some (.int .u8 0) := by
    intro j hj
    have hlt : at' + n + j < D.length := by omega
    have hc := h3.cellAt (at' + n + j) (by omega)
    rw [hc, bvs_get D _ hlt, hbz _ hlt (by omega) (by omega)]
    rfl
  obtain ⟨bv, hbv, hb1⟩ : ∃ bv : Int, w.cell? ⟨g, at' + n + k0, none⟩ = some (.int .u8 bv) ∧ (bv != 0) = true := by
    have hlt : at' + n + k0 < D.length := by omega
    have hc := h3.cellAt (at' + n + k0) (by omega)
    refine ⟨(D[at' + n + k0].toNat : Int), by rw [hc, bvs_get D _ hlt], ?_⟩
    have := hb0 hlt
    simp only [bne_iff_ne, ne_eq]
    intro e
    exact this (UInt8.toNat.inj (by simpa using e))
  have HZB := hide hzb
  have HBV := hide hbv
  have HPD := hide hpd
  clear hzb hpd hbz hb0 hbv
  have HL := hide (fun (W : World) (hq : Qt w W) => qleft_any W p at' D.length _ cap (by rw [World.cell?_of_block (w := w) (by rw [hq.heap])]; exact c0) (by rw [World.cell?_of_block (w := w) (by rw [hq.heap])]; exact c1) h5 (by unfold maxLen; omega))
  have KC0 := hide (fun (W : World) (hq : Qt w W) => show W.cell? ⟨p, 0, none⟩ = some (.slice (some ⟨g, 0, none⟩) D.length cap) by rw [World.cell?_of_block (w := w) (by rw [hq.heap])]; exact c0)
  have KC1 := hide (fun (W : World) (hq : Qt w W) => show W.cell? ⟨p, 1, none⟩ = some (.int .i64 (at' : Int)) by rw [World.cell?_of_block (w := w) (by rw [hq.heap])]; exact c1)
  obtain ⟨i, hi, hz0, hz1, hz2⟩ := info_parts Try.info5
  have hln : ((D.drop at').take n).length = n := by simp; omega
  have HLN := hide hln
  have hsr : ∀ W : World, Qt w W → ∀ o, Sr (W.alloc o) 1 (.slice (some ⟨g, at', none⟩) n (cap - at')) n (bvs ((D.drop at').take n)) := by
    intro W hq o
    have hr : Rd w (.slice (some ⟨g, at', none⟩) n (cap - at')) ((D.drop at').take n) := by
      refine Rd.lit hln (by omega) (by unfold maxLen; omega) fun j hj => ?_
      rw [World.ownsRow.cellAt h3 (at' + j) (by omega), bvs_get D _ (by omega)]
      simp
    have := ((hr.kept (hq.fr (fun _ => False)) (fun _ _ h => h)).kept ((Fr.refl (fun _ => False) W).alloc o) (fun _ _ h => h)).sr
    rwa [hln] at this
  have HSR := hide hsr
  have H1 := hide h1
  have H3 := hide h3
  have HH := hide h
  have hpl := lt_of_heap h1
  have hgl : g < w.heap.size := (h3.lt g rfl).2
  have hgp : ¬ g = p := fun e => QAt.apart h1 h3 (by simp [Value.ownBlock, e])
  clear h1 h3 h hsr hln
  have hs1 : ¬ (D.length : Int) - (at' : Int) < (n : Int) := by omega
  have hs2 : ¬ (D.length : Int) - (at' : Int) < (n : Int) + (pd : Int) := by omega
  have i1 : (0 : Int) ≤ (at' : Int) := by omega
  have i2 : (at' : Int) ≤ (at' : Int) + (n : Int) := by omega
  have i3 : (at' : Int) + (n : Int) ≤ (cap : Int) := by omega
  have i4 : ¬ cap = at' := by omega
  have hwr : IntKind.i64.wrap ((at' : Int) + (n : Int)) = (at' : Int) + (n : Int) := by simp only [IntKind.wrap, IntKind.bits, IntKind.signed]; simp; omega
  have i5 : ((at' : Int) + (n : Int)).toNat - at' = n := by omega
  have i6 : at' + n - at' = n := by omega
  go_enter Try.func78, Try.ntmps78
  go_wp2_with fail
  refine (unhide HL _ (Qt.refl _)).mono ?_
  rintro e w1 ⟨rfl, q1⟩
  go_wp2_with fail
  refine (unhide HL _ q1).mono ?_
  rintro e w2 ⟨rfl, q2⟩
  have Q2 := hide (q1.trans q2)
  have e0 := unhide KC0 _ (unhide Q2)
  have e1 := unhide KC1 _ (unhide Q2)
  have z2 : w2.heap.size = w.heap.size := by rw [(unhide Q2).heap]
  have Z2 := hide z2
  clear c0 c1 c2 q1 q2 z2
  have n0 := World.new_ne w2 ⟨p, 0, none⟩ e0
  have n1 := World.new_ne w2 ⟨p, 1, none⟩ e1
  go_wp2_with fail
  go_region_held3 (fun W => W.cell? ⟨p, 0, none⟩ = some (.slice (some ⟨g, 0, none⟩) D.length cap) ∧ W.cell? ⟨p, 1, none⟩ = some (.int .i64 (at' : Int))) (go_keep) ((refine step_app rfl (.tmp 38) (.tmp 53) 28 rfl 5 i _ 1 1 Try.underlying28 hi hz0 hz1 hz2 rfl (by decide) (.slice (some ⟨w2.heap.size, 0, none⟩) 0 0) 0 [] (by rfl) (.slice (some ⟨g, at', none⟩) n (cap - at')) (by rfl) n (bvs ((D.drop at').take n)) (by exact ⟨rfl, .inr ⟨w2.heap.size, 0, #[], rfl, Nat.zero_le _, heap_alloc_new w2 _, Nat.le_refl _, by simp [maxLen], rfl, rfl⟩⟩) (by exact unhide HSR _ (unhide Q2) _) (bvs_one _) (by omega) (by simp only [maxLen]; omega) ?_; intro ao8 cap8 w8 ho8 hg8 hpl8; have f8 : Fr (fun _ => False) w w8 := Fr.grown (S := fun _ => False) (a := w) (by exact (((unhide Q2).fr (fun _ => False)).alloc (Obj.cells #[] 5)).drew) hg8 (fun k hk e => by simp [Value.ownBlock] at e; have := unhide Z2; omega); have k80 := (f8.cell (a := ⟨p, 0, none⟩) hpl id).trans (unhide KC0 _ (Qt.refl _)); have k81 := (f8.cell (a := ⟨p, 1, none⟩) hpl id).trans (unhide KC1 _ (Qt.refl _))))
  have hn8 : ∀ k, (Value.slice ao8 (0 + n) cap8).ownBlock = some k → w.heap.size ≤ k := by
    intro k hk
    rcases hpl8 with e | ⟨k', e, hk'⟩
    · rw [e] at hk; simp [Value.ownBlock] at hk; have := unhide Z2; omega
    · rw [e] at hk; simp at hk hk'; have := unhide Z2; omega
  simp only [Nat.zero_add, List.nil_append] at ho8 hn8
  have HO8 := hide ho8
  have HN8 := hide hn8
  have F8 := hide f8
  have K8 := hide ((unhide HH).kept f8 id (fun _ _ h => h))
  clear ho8 hn8 hpl8 hg8 f8 n0 n1 e0 e1
  go_wp2_with fail
  go_loopw [9] (fun j w' => ∃ k : Nat, k ≤ k0 ∧ j = .int .i64 k ∧ Qt w8 w') (fun j _ => pd - (intOf j).toNat)
  case atStart => exact ⟨0, Nat.zero_le _, rfl, Qt.refl _⟩
  case round =>
    obtain ⟨k, hk, rfl, q9⟩ := hrel
    have m0 : wr.cell? ⟨p, 0, none⟩ = some (.slice (some ⟨g, 0, none⟩) D.length cap) := by rw [World.cell?_of_block (w := w8) (by rw [q9.heap])]; exact k80
    have m1 : wr.cell? ⟨p, 1, none⟩ = some (.int .i64 (at' : Int)) := by rw [World.cell?_of_block (w := w8) (by rw [q9.heap])]; exact k81
    by_cases hlt : k < k0
    · have mk : wr.cell? ⟨g, at' + n + k, none⟩ = some (.int .u8 0) := by
        rw [World.cell?_of_block (w := w8) (by rw [q9.heap]), (unhide F8).cell (a := ⟨g, at' + n + k, none⟩) hgl id]
        exact unhide HZB k hlt
      have j1 : (0 : Int) ≤ (at' : Int) + (n : Int) + (k : Int) := by omega
      have j2 : (at' : Int) + (n : Int) + (k : Int) < (D.length : Int) := by omega
      have hwk : IntKind.i64.wrap ((at' : Int) + (n : Int) + (k : Int)) = (at' : Int) + (n : Int) + (k : Int) := by simp only [IntKind.wrap, IntKind.bits, IntKind.signed]; simp; omega
      clear k80 k81
      go_wp2_with fail
      go_quiet (fail)
      go_wp2_with fail
      go_roundw
      case rel => exact ⟨k + 1, by omega, by go_num, q9.trans (Qt.drewN _ _)⟩
      case measure => simp [intOf]; omega
    · have hkk : k = k0 := by omega
      subst hkk
      have mk : wr.cell? ⟨g, at' + n + k, none⟩ = some (.int .u8 bv) := by
        rw [World.cell?_of_block (w := w8) (by rw [q9.heap]), (unhide F8).cell (a := ⟨g, at' + n + k, none⟩) hgl id]
        exact unhide HBV
      have j1 : (0 : Int) ≤ (at' : Int) + (n : Int) + (k : Int) := by omega
      have j2 : (at' : Int) + (n : Int) + (k : Int) < (D.length : Int) := by omega
      have hwk : IntKind.i64.wrap ((at' : Int) + (n : Int) + (k : Int)) = (at' : Int) + (n : Int) + (k : Int) := by simp only [IntKind.wrap, IntKind.bits, IntKind.signed]; simp; omega
      have hkp : (k : Int) < (pd : Int) := by omega
      clear k80 k81
      go_wp2_with fail
      go_quiet (fail)
      go_wp2_with fail
      refine (qfail_ok _ p q D at' 11 fr (((unhide K8).kept (q9.fr (fun _ => False)) id (fun _ _ h => h)).kept ((Qt.drewN _ _).fr (fun _ => False)) id (fun _ _ h => h)) hfr (by omega)).mono ?_
      rintro e w10 ⟨rfl, r10, f10⟩
      go_wp2_with fail
      go_ret
      exact ⟨rfl, r10, (((unhide F8).mono (T := fun k => k = p) (fun _ _ h => h.elim)).trans ((q9.trans (Qt.drewN _ _)).fr (fun k => k = p)) (fun _ _ h => h)).trans f10 (fun _ _ h => h)⟩

end Go.Proofs.Ytmnbdpdblpgnlaa
