/-
  The document's cache: Write.
-/
import Derived.Test.YtdgmlopaeonacaaM20
namespace Go.Proofs.Ytdgmlopaeonacaa
set_option linter.unusedVariables false
set_option linter.unusedSimpArgs false
open Go.RowKit
set_option linter.unusedVariables false
set_option linter.unusedSimpArgs false

attribute [local go_sem ↓] Go.wp_at_zero Go.wp_at_succ

/-- A place whose bytes are yet to come. -/
structure Ok0 (x : Pl) : Prop where
  b : 0 ≤ x.b
  first : x.first < 18446744073709551616
  last : x.last < 18446744073709551616
  pins : 0 ≤ x.pins ∧ x.pins ≤ 1000000000
theorem Pl.Ok.ok0 {x : Pl} (h : x.Ok) : Ok0 x := ⟨h.b, h.first, h.last, h.pins⟩
theorem wtP_ok0 {x : Pl} (ok : Ok0 x) {P : List UInt8} (hP : P.length ≤ 384) {ch : Nat} (hc : ch < 18446744073709551616) : (wtP x P ch).Ok :=
  ⟨pad_length hP, ok.b, by unfold wtP; dsimp only; split; exact ok.first; exact hc, hc, ok.pins⟩
theorem DAtK.weak [Av] {K K' : Pl → Prop} {w : World} {q g : Nat} {lv : Value} {R : List (Nat × Pl)} {c : Ca} (H : DAtK K w q g lv R c) (h : ∀ x, K x → K' x) : DAtK K' w q g lv R c := ⟨H.heap, H.row, H.pl, H.nd, fun x hx => h _ (H.ok x hx), H.num⟩
theorem DAtK.turn2 [Av] {K : Pl → Prop} {w w1 : World} {q g : Nat} {lv : Value} {R1 R2 : List (Nat × Pl)} {c : Ca} {x : Nat × Pl} {y : Pl} (H : DAtK K w q g lv (R1 ++ x :: R2) c) (f : Fr (fun k => k = x.1) w w1) (hp : ∃ pv, PAt w1 x.1 pv y) (ok : ∀ z ∈ R1 ++ (x.1, y) :: R2, z.2.Ok) : DAt w1 q g lv (R1 ++ (x.1, y) :: R2) c := by
  have hkx : knd w x.1 = 94 := by obtain ⟨pv, h⟩ := H.pl x (by simp); exact knd_cells h.1
  have hnd := H.nd
  refine ⟨?_, ?_, fun z hz => ?_, by simpa [adr] using hnd, ok, H.num⟩
  · rw [f.block q (lt_of_heap H.heap) (fun e => by rw [← show q = x.1 from e, knd_cells H.heap] at hkx; exact absurd hkx (by decide))]; exact H.heap
  · have := owns_kept H.row f (fun k hk e => by have h2 := knd_owns H.row hk; rw [show k = x.1 from e, hkx] at h2; exact absurd h2 (by decide))
    simpa using this
  · by_cases hz2 : z = (x.1, y)
    · rw [hz2]; exact hp
    · have hzR : z ∈ R1 ∨ z ∈ R2 := by
        rcases List.mem_append.1 hz with h | h
        · exact .inl h
        · rcases List.mem_cons.1 h with h | h
          · exact absurd h hz2
          · exact .inr h
      obtain ⟨pv, hpz⟩ := H.pl z (by rcases hzR with h | h <;> simp [h])
      refine ⟨pv, hpz.kept f (fun e => ?_) (fun k e => by rw [show k = x.1 from e, hkx]; decide)⟩
      unfold adr at hnd
      simp only [List.map_append, List.map_cons, List.nodup_append, List.nodup_cons] at hnd
      rcases hzR with h | h
      · exact hnd.2.2 _ (List.mem_map.2 ⟨z, h, rfl⟩) _ (List.mem_cons_self ..) e
      · exact hnd.2.1.1 (List.mem_map.2 ⟨z, h, e⟩)
section
variable {w : World} {a ch : Nat} {pv v : Value} {x : Pl} {P : List UInt8}
theorem wr_pat [Av] {w' : World} {y : Pl} (H : PAt w a pv x) (hv : Rd w v y.P) (h5 : ∀ k, v.ownBlock = some k → knd w k = 5) (hz : ∀ k, v.ownBlock = some k → Av.z ≠ some k) (f : Fr (fun k => k = a) w w') (heap : w'.heap[a]? = some (.cells #[.int .i64 y.b, v, .bool y.dirty, .int .u64 (fz y), .int .u64 (lz y), .int .i64 y.pins] 94 (0, 0))) : PAt w' a v y := by
  have hk := knd_cells H.1
  refine ⟨heap, hv.kept f (fun k hk2 e => by have := h5 k hk2; rw [show k = a from e, hk] at this; exact absurd this (by decide)), fun k hk2 => ?_, hz⟩
  have e5 := h5 k hk2
  have hl : k < w.heap.size := knd_lt (by rw [e5]; decide)
  have hne : ¬ k = a := fun e => by rw [e, hk] at e5; exact absurd e5 (by decide)
  unfold knd at *
  rw [f.block k hl hne]; exact e5
theorem wr_new [Av] (H : PAt w a pv x) (hv : Rd w v (pad P)) (h5 : ∀ k, v.ownBlock = some k → knd w k = 5) (hz : ∀ k, v.ownBlock = some k → Av.z ≠ some k) (ch : Nat) (hd : x.dirty = false) : PAt ((((w.setCell ⟨a, 1, none⟩ v).setCell ⟨a, 3, none⟩ (.int .u64 (ch : Int))).setCell ⟨a, 2, none⟩ (.bool true)).setCell ⟨a, 4, none⟩ (.int .u64 (ch : Int))) a v (wtP x P ch) ∧ Fr (fun k => k = a) w ((((w.setCell ⟨a, 1, none⟩ v).setCell ⟨a, 3, none⟩ (.int .u64 (ch : Int))).setCell ⟨a, 2, none⟩ (.bool true)).setCell ⟨a, 4, none⟩ (.int .u64 (ch : Int))) := by
  have f : Fr (fun k => k = a) w ((((w.setCell ⟨a, 1, none⟩ v).setCell ⟨a, 3, none⟩ (.int .u64 (ch : Int))).setCell ⟨a, 2, none⟩ (.bool true)).setCell ⟨a, 4, none⟩ (.int .u64 (ch : Int))) := ((((Fr.refl (fun k => k = a) w).setCell (p := ⟨a, 1, none⟩) (fun _ => rfl) _).setCell (p := ⟨a, 3, none⟩) (fun _ => rfl) _).setCell (p := ⟨a, 2, none⟩) (fun _ => rfl) _).setCell (p := ⟨a, 4, none⟩) (fun _ => rfl) _
  refine ⟨wr_pat H hv h5 hz f ?_, f⟩
  have h1 := heap_setCell_same w a 1 _ 94 v H.1
  have h2 := heap_setCell_same _ a 3 _ 94 (.int .u64 (ch : Int)) h1
  have h3 := heap_setCell_same _ a 2 _ 94 (.bool true) h2
  have h4 := heap_setCell_same _ a 4 _ 94 (.int .u64 (ch : Int)) h3
  rw [h4]
  simp [wtP, fz, lz, hd]
theorem wr_old [Av] (H : PAt w a pv x) (hv : Rd w v (pad P)) (h5 : ∀ k, v.ownBlock = some k → knd w k = 5) (hz : ∀ k, v.ownBlock = some k → Av.z ≠ some k) (ch : Nat) (hd : x.dirty = true) : PAt (((w.setCell ⟨a, 1, none⟩ v).setCell ⟨a, 2, none⟩ (.bool true)).setCell ⟨a, 4, none⟩ (.int .u64 (ch : Int))) a v (wtP x P ch) ∧ Fr (fun k => k = a) w (((w.setCell ⟨a, 1, none⟩ v).setCell ⟨a, 2, none⟩ (.bool true)).setCell ⟨a, 4, none⟩ (.int .u64 (ch : Int))) := by
  have f : Fr (fun k => k = a) w (((w.setCell ⟨a, 1, none⟩ v).setCell ⟨a, 2, none⟩ (.bool true)).setCell ⟨a, 4, none⟩ (.int .u64 (ch : Int))) := (((Fr.refl (fun k => k = a) w).setCell (p := ⟨a, 1, none⟩) (fun _ => rfl) _).setCell (p := ⟨a, 2, none⟩) (fun _ => rfl) _).setCell (p := ⟨a, 4, none⟩) (fun _ => rfl) _
  refine ⟨wr_pat H hv h5 hz f ?_, f⟩
  have h1 := heap_setCell_same w a 1 _ 94 v H.1
  have h3 := heap_setCell_same _ a 2 _ 94 (.bool true) h1
  have h4 := heap_setCell_same _ a 4 _ 94 (.int .u64 (ch : Int)) h3
  rw [h4]
  simp [wtP, fz, lz, hd]
end

section
variable (w : World) (q g : Nat) (dv lg lv : Value) (vs : List Value) (R : List (Nat × Pl)) (c : Ca) (m : Hm)

set_option maxRecDepth 100000 in
set_option maxHeartbeats 8000000 in
theorem dwrite_any [Av] (b : Int) (v : Value) (P : List UInt8) (ch : Nat) (hch : ch < 18446744073709551616) (hv : Rd w v P) (hva : ∀ W, Fr (fun k => HB g dv lg k ∨ DB q lv R k) w W → Rd W v P) (hR : R.length ≤ 4096) (H : DAt w q g lv R c) (HH : HAtG w g dv lg vs m) (hD : ∀ y ∈ R, y.2.b < (m.D.length : Int)) (hc : m.calls < 999999990) : Calls Try.prog 32 #[ptr q, .int .i64 b, v, .int .u64 (ch : Int)] w fun e w' => e = .returned (.int .i64 (wtR c m (R.map Prod.snd) b P ch).1) ∧ Dp w w' q g dv lg lv R c (wtR c m (R.map Prod.snd) b P ch).2.2 (wtR c m (R.map Prod.snd) b P ch).2.1 := by
  have HZO : Hid (∀ z, Av.z = some z → z < w.heap.size) := hide HH.old
  obtain ⟨c0, -, c2, -⟩ := H.cells
  have g0 := cell_of_heap HH.heap 0
  simp at g0
  obtain ⟨ad, cd, hdv⟩ := HH.shape
  obtain ⟨va, vc, rfl⟩ := hv.shape
  have hPl := hv.len
  simp only [maxLen] at hPl
  have HD := hide H
  have HHM := hide HH
  have HA := hide (at_any w q g lv R c b (by omega) H)
  obtain ⟨M, hM⟩ : ∃ M, M = m.D.length := ⟨_, rfl⟩
  obtain ⟨PN, hPN⟩ : ∃ PN, P.length = PN := ⟨_, rfl⟩
  have HRV : Hid (∀ W, Fr (fun k => HB g dv lg k ∨ DB q lv R k) w W → Rd W (.slice va P.length vc) P) := hide hva
  have HPN := hide hPN
  have HCH := hide hch
  rw [hPN] at hPl HRV ⊢
  rw [← hM] at hdv
  by_cases hch0 : b < 0 ∨ (m.D.length : Int) ≤ b
  · have HE : Hid (wtR c m (R.map Prod.snd) b P ch = (2, R.map Prod.snd, m)) := hide (by
      have : chE m b = 2 := by unfold chE; rw [if_pos hch0]
      unfold wtR; rw [this, if_neg (by decide)])
    rw [← hM] at hch0
    clear H HH HA hM hD hc hv hva hR hPN hch
    subst hdv
    unfold ptr at *
    rcases hch0 with hb | hb
    · have qb : decide (b < 0) = true := by simpa using hb
      clear hb
      go_enter Try.func32, Try.ntmps32
      go_wp2_with fail
      go_ret
      rw [unhide HE]
      exact ⟨rfl, lg, vs, lv, R, Dd.same (unhide HD) (unhide HHM) (Fr.refl _ _), rfl⟩
    · have qb : decide (b < 0) = false := by simp; omega
      have qc : decide ((M : Int) ≤ b) = true := by simpa using hb
      clear hb
      go_enter Try.func32, Try.ntmps32
      go_wp2_with fail
      go_ret
      rw [unhide HE]
      exact ⟨rfl, lg, vs, lv, R, Dd.same (unhide HD) (unhide HHM) (Fr.refl _ _), rfl⟩
  · have hce : chE m b = 0 := by unfold chE; rw [if_neg hch0]
    obtain ⟨bn, rfl⟩ : ∃ bn : Nat, b = (bn : Int) := ⟨b.toNat, by omega⟩
    have qc : decide ((M : Int) ≤ (bn : Int)) = false := by simp; omega
    have qc2 : decide (M ≤ bn) = false := by simp; omega
    by_cases hp4 : PN ≤ 384
    · have q4 : decide ((384 : Int) < (PN : Int)) = false := by simp; omega
      have q4n : decide (384 < PN) = false := by simp; omega
      obtain ⟨KK, hKK⟩ : ∃ KK, KK = 384 - PN := ⟨_, rfl⟩
      have HKK := hide hKK
      clear hKK
      rcases hat : atI (R.map Prod.snd) (bn : Int) with _ | i
      · have han : atN (R.map Prod.snd) (bn : Int) = -1 := by unfold atN; rw [hat]
        rw [han] at HA
        have HRM := hide (room_any w q g dv lg lv vs R c m (by omega) H HH hD (by omega))
        have HE : Hid (wtR c m (R.map Prod.snd) (bn : Int) P ch = if (rmR c m (R.map Prod.snd)).1 = 0 then (0, (rmR c m (R.map Prod.snd)).2.1 ++ [wtP (zeroP (bn : Int)) P ch], (rmR c m (R.map Prod.snd)).2.2) else rmR c m (R.map Prod.snd)) := hide (by
          unfold wtR; rw [hce, if_pos rfl, if_pos (by rw [hPN]; exact hp4), hat])
        have hrl : (rmR c m (R.map Prod.snd)).2.1.length ≤ 4096 := by
          have h0 : (R.map Prod.snd).length ≤ 4096 := by simpa using hR
          unfold rmR
          split
          · exact h0
          · split
            · exact h0
            · split
              · exact h0
              · split
                · split
                  · exact h0
                  · have := List.length_eraseIdx_le (R.map Prod.snd) ‹_›; exact Nat.le_trans this h0
                · have := List.length_eraseIdx_le (R.map Prod.snd) ‹_›; exact Nat.le_trans this h0
        generalize rmR c m (R.map Prod.snd) = t at *
        obtain ⟨te, tl, tm⟩ := t
        dsimp only at *
        have HRL := hide hrl
        clear H HH hD hc hrl han hat hce hR hch0 hM hv hva hPN hch
        subst hdv
        unfold ptr at *
        go_enter Try.func32, Try.ntmps32
        go_wp2_with fail
        refine (unhide HA).mono ?_
        rintro e w1 ⟨rfl, rfl⟩
        go_wp2_with fail
        refine (unhide HRM).mono ?_
        rintro e w1 ⟨rfl, lg1, vs1, lv1, RA, hC1, hl1⟩
        by_cases hte : te = 0
        · subst hte
          rw [if_pos rfl] at HE
          have hP2 := PAt.new (w := w1) (pv := .slice none 0 0) (b := (bn : Int)) (P := []) (Rd.nil _) (fun k hk => by simp [Value.ownBlock] at hk) (fun k hk => by simp [Value.ownBlock] at hk)
          obtain ⟨w2, hw2⟩ : ∃ w2, w2 = w1.alloc (.cells #[.int .i64 (bn : Int), .slice none 0 0, .bool false, .int .u64 0, .int .u64 0, .int .i64 0] 94) := ⟨_, rfl⟩
          rw [← hw2] at hP2
          have f2 : Fr (fun _ => False) w1 w2 := by rw [hw2]; exact (Fr.refl _ _).alloc _
          have hD2 := (hC1.d.kept0 f2).weak (fun x (h : x.Ok) => h.ok0)
          obtain ⟨-, -, e2, -⟩ := hD2.cells
          obtain ⟨-, -, e1, -⟩ := hC1.d.cells
          obtain ⟨al, cl, hlv⟩ := hD2.shape
          have hRl : RA.length ≤ 4096 := by have h1 := unhide HRL; rw [← hl1] at h1; simpa using h1
          have hzok : Ok0 ({ zeroP (bn : Int) with P := [] } : Pl) := ⟨by show (0 : Int) ≤ (bn : Int); omega, by show 0 < _; decide, by show 0 < _; decide, by show (0 : Int) ≤ 0 ∧ (0 : Int) ≤ _; decide⟩
          have hnd : w1.heap.size ∉ adr RA := fun e => by
            obtain ⟨y, hy, e3⟩ := List.mem_map.1 e
            obtain ⟨pv, hp⟩ := hC1.d.pl y hy
            have := lt_of_heap hp.1
            omega
          obtain ⟨N1, hN1⟩ : ∃ N1, N1 = RA.length := ⟨_, rfl⟩
          have HPF := hide (fun (w8 : World) (o : Obj) (v : Value) ho hg => push_facts (w8 := w8) (o := o) (v := v) (x := (w1.heap.size, { zeroP (bn : Int) with P := [] })) hD2 ⟨_, hP2⟩ hnd hzok ho hg)
          have HROW := hide hD2.row
          have HC1 := hide hC1
          have HL1 := hide hl1
          have HOKA : Hid (∀ z ∈ RA, z.2.Ok) := hide hC1.d.ok
          have HOX := hide hzok
          subst hlv
          rw [← hN1] at HROW HPF e2 e1 hRl HC1
          have HN1 := hide hN1
          have hs2 : w2.heap.size = w1.heap.size + 1 := by rw [hw2]; simp
          have SR1 : Hid (Sr (w2.alloc (.cells #[.pointer (some ⟨w1.heap.size, 0, none⟩)] 95)) 1 (.slice (some ⟨w1.heap.size + 1, 0, none⟩) 1 1) 1 [.pointer (some ⟨w1.heap.size, 0, none⟩)]) := hide (by have := one_cellV w2 (.pointer (some ⟨w1.heap.size, 0, none⟩)) 95; rw [hs2] at this; exact this)
          have HF12 := hide f2
          clear hP2 f2 hD2 hzok hnd hC1 hl1 HRM hN1
          obtain ⟨inf9, hj0, hy0, hy1, hy2⟩ := info_parts Try.info95
          subst hw2
          unfold ptr at *
          go_wp2_with (at_builtin; refine wpList_app rfl (.tmp 43) (.tmp 47) 54 rfl 95 inf9 _ 1 8 Try.underlying54 hj0 hy0 hy1 hy2 rfl (by decide) (.slice al N1 cl) N1 _ rfl (.slice (some ⟨w1.heap.size + 1, 0, none⟩) 1 1) rfl 1 [.pointer (some ⟨w1.heap.size, 0, none⟩)] ((unhide HROW).alloc _) (unhide SR1) (fun u hu => by simp at hu; subst hu; rfl) (by omega) (by simp only [maxLen]; omega) ?_)
          intro ao8 c8 w8 ho8 hg8 hn8
          obtain ⟨hq8, hz8, hD9, f9⟩ := unhide HPF w8 _ _ (by simpa [ptr] using ho8) hg8
          have HL9 : Hid (∀ k, (Value.slice ao8 (N1 + 1) c8).ownBlock = some k → (Value.slice al N1 cl).ownBlock = some k ∨ w1.heap.size ≤ k) := hide (fun k hk => by
            rcases hn8 with e | ⟨k2, e, e2⟩
            · exact .inl (e ▸ hk)
            · rw [e] at hk; simp at hk e2; right; omega)
          obtain ⟨w9, hw9⟩ : ∃ w9, w9 = w8.setCell ⟨q, 2, none⟩ (.slice ao8 (N1 + 1) c8) := ⟨_, rfl⟩
          rw [← hw9] at hD9 f9
          have f19 : Fr (fun k => k = q ∨ (Value.slice al N1 cl).ownBlock = some k) w1 w9 := ((unhide HF12).mono (fun _ _ e => e.elim)).trans f9 (fun _ _ e => e)
          have r2 := hD9.cells.2.2.1
          have hUS := used_any w9 q g (.slice ao8 (N1 + 1) c8) RA [] (w1.heap.size, { zeroP (bn : Int) with P := [] }) c (by have := unhide HN1; simp; omega) hD9
          have HUS := hide hUS
          have F19 := hide f19
          have hrw : (RA.length : Int) = (N1 : Int) := by rw [← unhide HN1]
          rw [hrw] at HUS
          clear ho8 hg8 hn8 hD9 f9 f19 hUS HPF HROW SR1
          subst hw9
          unfold ptr at *
          go_wp2_with fail
          refine (unhide HUS).mono ?_
          rintro e w3 ⟨rfl, ⟨lv3, hK3, hl3⟩, f3⟩
          simp only [List.append_nil] at hK3
          obtain ⟨x, hx⟩ : ∃ x : Nat × Pl, x = (w1.heap.size, { zeroP (bn : Int) with P := [] }) := ⟨_, rfl⟩
          have HXX := hide hx
          have F13 : Hid (Fr (fun k => DB q (.slice al N1 cl) RA k) w1 w3) := hide (((unhide F19).mono (fun k _ e => by rcases e with e | e; exact .inl e; exact .inr (.inl e))).trans f3 (fun k _ e => .inl e))
          have HL3 : Hid (∀ k, lv3.ownBlock = some k → (Value.slice al N1 cl).ownBlock = some k ∨ w1.heap.size ≤ k) := hide (fun k hk => by have h1 := hl3 k hk; have h2 := (unhide F19).size; right; omega)
          have HF3 : Hid (Fr (fun k => HB g (.slice ad M cd) lg k ∨ DB q lv R k) w w3) := hide ((unhide HC1).f.trans (unhide F13) (fun k hk e => by
            rcases e with e | e | e
            · exact .inr (.inl e)
            · rcases (unhide HC1).lvn k e with e2 | e2
              · exact .inr (.inr (.inl e2))
              · omega
            · rcases (unhide HC1).sub k e with e2 | e2
              · exact .inr (.inr (.inr e2))
              · omega))
          have HSZ : Hid (w1.heap.size ≤ x.1) := hide (by rw [hx]; exact Nat.le_refl _)
          have hxa : w1.heap.size = x.1 := by rw [hx]
          have hK3 : DAtK Ok0 w3 q g lv3 (RA ++ [x]) c := by rw [hx]; exact hK3
          have HOX : Hid (Ok0 x.2) := hide (by rw [hx]; exact unhide HOX)
          have HWX : Hid (wtP x.2 P ch = wtP (zeroP (bn : Int)) P ch) := hide (by rw [hx]; rfl)
          rw [hxa]
          clear f3 hl3 HUS hx hxa
          have hx := hK3.pl x (by simp)
          obtain ⟨pv, hp⟩ := hx
          have hRv3 : Rd w3 (.slice va PN vc) P := unhide HRV w3 (unhide HF3)
          have HSR : Hid (Sr (w3.alloc (.cells #[] 5)) 1 (.slice va PN vc) PN (bvs P)) := hide (by have := (hRv3.kept ((Fr.refl (fun _ => False) w3).alloc (.cells #[] 5)) (fun _ _ h => h)).sr; rw [unhide HPN] at this; exact this)
          have HPA := hide hp
          have HK3 := hide hK3
          obtain ⟨inf, hi0, hz0, hz1, hz2⟩ := info_parts Try.info5
          clear hp hRv3 hK3
          go_wp2_with (at_builtin; refine wpList_app rfl (.tmp 61) (.tmp 62) 37 rfl 5 inf _ 1 1 Try.underlying37 hi0 hz0 hz1 hz2 rfl (by decide) (.slice (some ⟨w3.heap.size, 0, none⟩) 0 0) 0 [] rfl (.slice va PN vc) rfl PN (bvs P) (owns_new (heap_alloc_new _ _)) (unhide HSR) (bvs_one _) (by omega) (by simp only [maxLen]; omega) ?_)
          intro ao4 c4 w4 o4 g4 p4
          obtain ⟨g5, rfl⟩ : ∃ g5, ao4 = some ⟨g5, 0, none⟩ := by
            rcases o4.2 with ⟨e, -⟩ | ⟨g5, cap5, cur5, e, -⟩
            · rw [e] at p4; simp [Value.ownBlock] at p4
            · simp only [Value.slice.injEq] at e; exact ⟨g5, e.1⟩
          have hg5 : w3.heap.size ≤ g5 := by
            rcases p4 with e | ⟨k, e, hk⟩
            · simp [Value.ownBlock] at e; omega
            · simp [Value.ownBlock] at e hk; omega
          have F4 : Hid (Fr (fun _ => False) w3 w4) := hide (((Fr.refl (fun _ => False) w3).alloc (.cells #[] 5)).grown g4 (fun k hk e => by simp [Value.ownBlock] at e; omega))
          have HO4 : Hid (w4.ownsRow 0 5 1 (.slice (some ⟨g5, 0, none⟩) PN c4) PN (bvs P)) := hide (by simpa using o4)
          clear o4 g4 p4
          go_wp2_with (at_builtin; refine wpList_app0 rfl rfl (.tmp 63) (.tmp 66) rfl (k := KK) (unhide HPN) rfl rfl (by have := unhide HKK; first | omega | (simp only [wrap64]; omega)) (unhide HO4) (by have := unhide HKK; omega) ?_)
          intro ao6 c6 w6 o6 g6 p6
          have hpk : PN + KK = 384 := by have := unhide HKK; omega
          have F6 : Hid (Fr (fun _ => False) w3 w6) := hide ((unhide F4).trans ((Fr.refl (fun k => some g5 = some k) w4).grown g6 (fun k _ e => e)) (fun k hk e => by simp at e; omega))
          have hpad : P ++ List.replicate KK 0 = pad P := by unfold pad; rw [unhide HPN, show KK = 384 - PN from unhide HKK]
          rw [hpad] at o6
          have hR6 : Rd w6 (.slice ao6 (PN + KK) c6) (pad P) := by
            refine Rd.of_owns (base := 0) ?_
            rw [pad_length (by rw [unhide HPN]; omega), ← hpk]
            exact o6
          have h56 : ∀ k, (Value.slice ao6 (PN + KK) c6).ownBlock = some k → knd w6 k = 5 := fun k hk => knd_owns o6 hk
          have hK6 := (unhide HK3).kept0 (unhide F6)
          obtain ⟨pv6, hp6⟩ := hK6.pl x (by simp)
          obtain ⟨-, d1, d2, d3, d4, -⟩ := hp6.cells
          have z1 := frozen_of_heap hp6.1 1
          have z2 := frozen_of_heap hp6.1 2
          have z3 := frozen_of_heap hp6.1 3
          have z4 := frozen_of_heap hp6.1 4
          obtain ⟨pva, pvc, hpv6⟩ := hp6.2.1.shape
          have HK6 := hide hK6
          have HP6 := hide hp6
          have HR6 := hide hR6
          have H56 := hide h56
          have HZ6 : Hid (∀ k, (Value.slice ao6 (PN + KK) c6).ownBlock = some k → Av.z ≠ some k) := hide (fun k hk e => by have h1 := unhide HZO k e; have h2 := (unhide HF3).size; have h3 := (unhide F4).size; rcases p6 with e6 | e6 <;> (rw [e6] at hk; simp at hk; omega))
          clear o6 g6 p6 hpad hR6 h56 hK6 hp6 hpk
          rcases hdy : x.2.dirty with _ | _
          · rw [hdy] at d2
            have HY : Hid (wtP x.2 P ch = { x.2 with P := pad P, first := ch, last := ch, dirty := true }) := hide (by unfold wtP; rw [hdy]; rfl)
            obtain ⟨hp9, f9⟩ := wr_new (unhide HP6) (unhide HR6) (unhide H56) (unhide HZ6) ch hdy
            have HP9 := hide hp9
            have F9 := hide f9
            clear hp9 f9 hdy
            go_wp2_with fail
            go_ret
            rw [unhide HE]
            have hf := (unhide F6).mono (T := fun k => k = x.1) (fun _ _ e => e.elim)
            have hf9 := hf.trans (unhide F9) (fun _ _ e => e)
            have hD9 := (unhide HK3).turn2 (R1 := RA) (R2 := []) hf9 ⟨_, unhide HP9⟩ (fun z hz => by
              rcases List.mem_append.1 hz with h | h
              · exact unhide HOKA z h
              · rw [List.mem_singleton.1 h]; exact wtP_ok0 (unhide HOX) (by rw [unhide HPN]; omega) (unhide HCH))
            exact ⟨rfl, lg1, vs1, lv3, _, (unhide HC1).trans (Dd.cache (unhide HC1).d (unhide HC1).hh hD9 (fun k hk => by simp [adr] at hk ⊢; rcases hk with h | h; exact .inl h; right; have := unhide HSZ; omega) (unhide HL3) ((unhide F13).trans hf9 (fun k hk e => by have h1 := unhide HSZ; have h2 : k = _ := e; omega))), by rw [List.map_append, unhide HL1, List.map_cons, List.map_nil]; dsimp only; rw [unhide HWX]⟩
          · rw [hdy] at d2
            obtain ⟨hp9, f9⟩ := wr_old (unhide HP6) (unhide HR6) (unhide H56) (unhide HZ6) ch hdy
            have HP9 := hide hp9
            have F9 := hide f9
            clear hp9 f9 hdy
            go_wp2_with fail
            go_ret
            rw [unhide HE]
            have hf := (unhide F6).mono (T := fun k => k = x.1) (fun _ _ e => e.elim)
            have hf9 := hf.trans (unhide F9) (fun _ _ e => e)
            have hD9 := (unhide HK3).turn2 (R1 := RA) (R2 := []) hf9 ⟨_, unhide HP9⟩ (fun z hz => by
              rcases List.mem_append.1 hz with h | h
              · exact unhide HOKA z h
              · rw [List.mem_singleton.1 h]; exact wtP_ok0 (unhide HOX) (by rw [unhide HPN]; omega) (unhide HCH))
            exact ⟨rfl, lg1, vs1, lv3, _, (unhide HC1).trans (Dd.cache (unhide HC1).d (unhide HC1).hh hD9 (fun k hk => by simp [adr] at hk ⊢; rcases hk with h | h; exact .inl h; right; have := unhide HSZ; omega) (unhide HL3) ((unhide F13).trans hf9 (fun k hk e => by have h1 := unhide HSZ; have h2 : k = _ := e; omega))), by rw [List.map_append, unhide HL1, List.map_cons, List.map_nil]; dsimp only; rw [unhide HWX]⟩
        · have qe : (te != 0) = true := by simpa using hte
          rw [if_neg hte] at HE
          have HC1 := hide hC1
          have HL1 := hide hl1
          clear hte hC1 hl1 HRM
          go_wp2_with fail
          go_ret
          rw [unhide HE]
          exact ⟨rfl, lg1, vs1, lv1, RA, unhide HC1, unhide HL1⟩
      · have han : atN (R.map Prod.snd) (bn : Int) = (i : Int) := by unfold atN; rw [hat]
        rw [han] at HA
        obtain ⟨x0, hx, hxb⟩ := at_some hat
        obtain ⟨R1, a, R2, rfl, rfl, hers⟩ := split_at hx
        have HUS := hide (used_any w q g lv R1 R2 (a, x0) c (by omega) H)
        have HE : Hid (wtR c m ((R1 ++ (a, x0) :: R2).map Prod.snd) (bn : Int) P ch = (0, (R1 ++ R2).map Prod.snd ++ [wtP x0 P ch], m)) := hide (by
          unfold wtR; rw [hce, if_pos rfl, if_pos (by rw [hPN]; exact hp4), hat]; dsimp only; rw [hx]; dsimp only; rw [hers])
        obtain ⟨T, hT⟩ : ∃ T, T = wtR c m ((R1 ++ (a, x0) :: R2).map Prod.snd) (bn : Int) P ch := ⟨_, rfl⟩
        rw [← hT] at HE ⊢
        clear hT
        have HOKA : Hid (∀ z ∈ R1 ++ R2, z.2.Ok) := hide (fun z hz => H.ok z (by rcases List.mem_append.1 hz with h | h <;> simp [h]))
        obtain ⟨x, hxx⟩ : ∃ x, x = (a, x0) := ⟨_, rfl⟩
        have HOX : Hid (Ok0 x.2) := hide (by rw [hxx]; exact (H.ok (a, x0) (by simp)).ok0)
        have hxa : a = x.1 := by rw [hxx]
        have hx0 : x0 = x.2 := by rw [hxx]
        have hi5 : R1.length ≤ 4096 := by simp at hR; omega
        clear H HH hD hc hat han hx hers hce hR hxb hch0 hM hv hva hPN hch hxx
        subst hdv
        subst hxa
        subst hx0
        unfold ptr at *
        go_enter Try.func32, Try.ntmps32
        go_wp2_with fail
        refine (unhide HA).mono ?_
        rintro e w1 ⟨rfl, rfl⟩
        go_wp2_with fail
        refine (unhide HUS).mono ?_
        rintro e w3 ⟨rfl, ⟨lv3, hK3, hl3⟩, f3⟩
        obtain ⟨RA, hRA⟩ : ∃ RA, RA = R1 ++ R2 := ⟨_, rfl⟩
        have HRA := hide hRA
        have F3 := hide f3
        have HL3 := hide hl3
        have HF3 : Hid (Fr (fun k => HB g (.slice ad M cd) lg k ∨ DB q lv (R1 ++ x :: R2) k) w w3) := hide (f3.mono (fun k _ e => .inr (.inl e)))
        clear f3 hl3 HUS hRA
        have hx := hK3.pl x (by simp)
        obtain ⟨pv, hp⟩ := hx
        have hRv3 : Rd w3 (.slice va PN vc) P := unhide HRV w3 (unhide HF3)
        have HSR : Hid (Sr (w3.alloc (.cells #[] 5)) 1 (.slice va PN vc) PN (bvs P)) := hide (by have := (hRv3.kept ((Fr.refl (fun _ => False) w3).alloc (.cells #[] 5)) (fun _ _ h => h)).sr; rw [unhide HPN] at this; exact this)
        have HPA := hide hp
        have HK3 := hide hK3
        obtain ⟨inf, hi0, hz0, hz1, hz2⟩ := info_parts Try.info5
        clear hp hRv3 hK3
        go_wp2_with (at_builtin; refine wpList_app rfl (.tmp 61) (.tmp 62) 37 rfl 5 inf _ 1 1 Try.underlying37 hi0 hz0 hz1 hz2 rfl (by decide) (.slice (some ⟨w3.heap.size, 0, none⟩) 0 0) 0 [] rfl (.slice va PN vc) rfl PN (bvs P) (owns_new (heap_alloc_new _ _)) (unhide HSR) (bvs_one _) (by omega) (by simp only [maxLen]; omega) ?_)
        intro ao4 c4 w4 o4 g4 p4
        obtain ⟨g5, rfl⟩ : ∃ g5, ao4 = some ⟨g5, 0, none⟩ := by
          rcases o4.2 with ⟨e, -⟩ | ⟨g5, cap5, cur5, e, -⟩
          · rw [e] at p4; simp [Value.ownBlock] at p4
          · simp only [Value.slice.injEq] at e; exact ⟨g5, e.1⟩
        have hg5 : w3.heap.size ≤ g5 := by
          rcases p4 with e | ⟨k, e, hk⟩
          · simp [Value.ownBlock] at e; omega
          · simp [Value.ownBlock] at e hk; omega
        have F4 : Hid (Fr (fun _ => False) w3 w4) := hide (((Fr.refl (fun _ => False) w3).alloc (.cells #[] 5)).grown g4 (fun k hk e => by simp [Value.ownBlock] at e; omega))
        have HO4 : Hid (w4.ownsRow 0 5 1 (.slice (some ⟨g5, 0, none⟩) PN c4) PN (bvs P)) := hide (by simpa using o4)
        clear o4 g4 p4
        go_wp2_with (at_builtin; refine wpList_app0 rfl rfl (.tmp 63) (.tmp 66) rfl (k := KK) (unhide HPN) rfl rfl (by have := unhide HKK; first | omega | (simp only [wrap64]; omega)) (unhide HO4) (by have := unhide HKK; omega) ?_)
        intro ao6 c6 w6 o6 g6 p6
        have hpk : PN + KK = 384 := by have := unhide HKK; omega
        have F6 : Hid (Fr (fun _ => False) w3 w6) := hide ((unhide F4).trans ((Fr.refl (fun k => some g5 = some k) w4).grown g6 (fun k _ e => e)) (fun k hk e => by simp at e; omega))
        have hpad : P ++ List.replicate KK 0 = pad P := by unfold pad; rw [unhide HPN, show KK = 384 - PN from unhide HKK]
        rw [hpad] at o6
        have hR6 : Rd w6 (.slice ao6 (PN + KK) c6) (pad P) := by
          refine Rd.of_owns (base := 0) ?_
          rw [pad_length (by rw [unhide HPN]; omega), ← hpk]
          exact o6
        have h56 : ∀ k, (Value.slice ao6 (PN + KK) c6).ownBlock = some k → knd w6 k = 5 := fun k hk => knd_owns o6 hk
        have hK6 := (unhide HK3).kept0 (unhide F6)
        obtain ⟨pv6, hp6⟩ := hK6.pl x (by simp)
        obtain ⟨-, d1, d2, d3, d4, -⟩ := hp6.cells
        have z1 := frozen_of_heap hp6.1 1
        have z2 := frozen_of_heap hp6.1 2
        have z3 := frozen_of_heap hp6.1 3
        have z4 := frozen_of_heap hp6.1 4
        obtain ⟨pva, pvc, hpv6⟩ := hp6.2.1.shape
        have HK6 := hide hK6
        have HP6 := hide hp6
        have HR6 := hide hR6
        have H56 := hide h56
        have HZ6 : Hid (∀ k, (Value.slice ao6 (PN + KK) c6).ownBlock = some k → Av.z ≠ some k) := hide (fun k hk e => by have h1 := unhide HZO k e; have h2 := (unhide HF3).size; have h3 := (unhide F4).size; rcases p6 with e6 | e6 <;> (rw [e6] at hk; simp at hk; omega))
        clear o6 g6 p6 hpad hR6 h56 hK6 hp6 hpk
        rcases hdy : x.2.dirty with _ | _
        · rw [hdy] at d2
          have HY : Hid (wtP x.2 P ch = { x.2 with P := pad P, first := ch, last := ch, dirty := true }) := hide (by unfold wtP; rw [hdy]; rfl)
          obtain ⟨hp9, f9⟩ := wr_new (unhide HP6) (unhide HR6) (unhide H56) (unhide HZ6) ch hdy
          have HP9 := hide hp9
          have F9 := hide f9
          clear hp9 f9 hdy
          go_wp2_with fail
          go_ret
          rw [unhide HE]
          have hf := (unhide F6).mono (T := fun k => k = x.1) (fun _ _ e => e.elim)
          have hf9 := hf.trans (unhide F9) (fun _ _ e => e)
          have hD9 := (unhide HK3).turn2 (R1 := R1 ++ R2) (R2 := []) hf9 ⟨_, unhide HP9⟩ (fun z hz => by
            rcases List.mem_append.1 hz with h | h
            · exact unhide HOKA z h
            · rw [List.mem_singleton.1 h]; exact wtP_ok0 (unhide HOX) (by rw [unhide HPN]; omega) (unhide HCH))
          exact ⟨rfl, lg, vs, lv3, _, Dd.cache (unhide HD) (unhide HHM) hD9 (fun k hk => .inl (by simp [adr] at hk ⊢; rcases hk with h | h | h; exact .inl h; exact .inr (.inr h); exact .inr (.inl h))) (fun k hk => .inr (unhide HL3 k hk)) (((unhide F3).mono (fun k _ e => .inl e)).trans hf9 (fun k _ e => .inr (.inr (by rw [show k = _ from e]; simp [adr])))), by simp⟩
        · rw [hdy] at d2
          obtain ⟨hp9, f9⟩ := wr_old (unhide HP6) (unhide HR6) (unhide H56) (unhide HZ6) ch hdy
          have HP9 := hide hp9
          have F9 := hide f9
          clear hp9 f9 hdy
          go_wp2_with fail
          go_ret
          rw [unhide HE]
          have hf := (unhide F6).mono (T := fun k => k = x.1) (fun _ _ e => e.elim)
          have hf9 := hf.trans (unhide F9) (fun _ _ e => e)
          have hD9 := (unhide HK3).turn2 (R1 := R1 ++ R2) (R2 := []) hf9 ⟨_, unhide HP9⟩ (fun z hz => by
            rcases List.mem_append.1 hz with h | h
            · exact unhide HOKA z h
            · rw [List.mem_singleton.1 h]; exact wtP_ok0 (unhide HOX) (by rw [unhide HPN]; omega) (unhide HCH))
          exact ⟨rfl, lg, vs, lv3, _, Dd.cache (unhide HD) (unhide HHM) hD9 (fun k hk => .inl (by simp [adr] at hk ⊢; rcases hk with h | h | h; exact .inl h; exact .inr (.inr h); exact .inr (.inl h))) (fun k hk => .inr (unhide HL3 k hk)) (((unhide F3).mono (fun k _ e => .inl e)).trans hf9 (fun k _ e => .inr (.inr (by rw [show k = _ from e]; simp [adr])))), by simp⟩
    · have q4 : decide ((384 : Int) < (PN : Int)) = true := by simp; omega
      have q4n : decide (384 < PN) = true := by simp; omega
      have HE : Hid (wtR c m (R.map Prod.snd) (bn : Int) P ch = (1, R.map Prod.snd, m)) := hide (by unfold wtR; rw [hce, if_pos rfl, if_neg (by rw [hPN]; exact hp4)])
      clear H HH HA hM hD hc hv hva hR hPN hch hce hch0 hp4
      subst hdv
      unfold ptr at *
      go_enter Try.func32, Try.ntmps32
      go_wp2_with fail
      go_ret
      rw [unhide HE]
      exact ⟨rfl, lg, vs, lv, R, Dd.same (unhide HD) (unhide HHM) (Fr.refl _ _), rfl⟩
end
end Go.Proofs.Ytdgmlopaeonacaa
