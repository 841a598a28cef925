/-
  The walk of package disk's settle.
-/
import Derived.Test.YtdhendcogjhgfaaD6
import Derived.Deep.MidRow
namespace Go.Proofs.Ytdhendcogjhgfaa
open Go.RowKit
set_option linter.unusedVariables false

attribute [local go_sem ↓] Go.wp_at_zero Go.wp_at_succ

theorem Try.u89 : Try.prog.underlying 89 = some (.array 512 5) := by kernel_rfl
theorem Try.s89 : (Try.prog.info? 89).map (·.size) = some 512 := by kernel_rfl
theorem Try.s92 : (Try.prog.info? 92).map (·.size) = some 513 := by kernel_rfl

theorem fold_set (cs : List Value) (k : Nat) (zs : Array Value) (h : k + cs.length ≤ zs.size) : (List.foldl (fun a (x : Value × Nat) => a.setIfInBounds x.2 x.1) zs (cs.zipIdx k)).toList = zs.toList.take k ++ cs ++ zs.toList.drop (k + cs.length) := by
  induction cs generalizing k zs with
  | nil => simp
  | cons c t ih =>
    rw [List.zipIdx_cons, List.foldl_cons, ih (k + 1) (zs.setIfInBounds k c) (by simp at h ⊢; omega)]
    have hk : k < zs.toList.length := by simp at h ⊢; omega
    rw [Array.toList_setIfInBounds, List.take_set, List.drop_set_of_lt (by omega), List.take_succ_eq_append_getElem hk, List.set_append_right _ _ (by simp; omega)]
    have e : k - (zs.toList.take k).length = 0 := by simp; omega
    rw [e, List.set_cons_zero, List.length_cons, show k + 1 + t.length = k + (t.length + 1) by omega]
    simp

/-- The zero of a sector, and a sector out of its bytes. -/
theorem zero92_fold : ∃ zs : Array Value, (∀ W : World, (zeroValue 92).run Try.prog W = .ok (.agg zs) W) ∧ zs.size = 513 ∧ ∀ cs : List Value, cs.length = 512 → List.foldl (fun a (x : Value × Nat) => a.setIfInBounds x.2 x.1) zs cs.zipIdx = (cs ++ [Value.int .u8 0]).toArray := by
  obtain ⟨i, z, hi, hz0, hz1, hz2, hz3⟩ := info_zero Try.size92 Try.zero92
  have hzs : z.cells.size = 513 := by rw [← Array.length_toList, hz3, List.length_replicate]
  obtain ⟨zs, rfl⟩ : ∃ zs, z = .agg zs := by
    cases z <;> first | exact ⟨_, rfl⟩ | (exfalso; simp [Value.cells] at hzs)
  refine ⟨zs, fun W => by simp [zeroValue, typeInfo, hi, hz0], hzs, fun cs hcl => ?_⟩
  apply Array.toList_inj.1
  rw [show cs.zipIdx = cs.zipIdx 0 from rfl, fold_set cs 0 zs (by rw [show zs.size = 513 from hzs]; omega), show zs.toList = _ from hz3, hcl]
  rw [List.take_zero, List.nil_append, List.drop_replicate]
  rfl

theorem setCells_heap (g t : Nat) (vs : List Value) (o : Nat) (w : World) (cur : List Value) (h : w.heap[g]? = some (.cells cur.toArray t (0, 0))) (hl : o + vs.length ≤ cur.length) : (w.setCells g o vs).heap[g]? = some (.cells (cur.take o ++ vs ++ cur.drop (o + vs.length)).toArray t (0, 0)) := by
  induction vs generalizing o w cur with
  | nil => simpa [World.setCells] using h
  | cons v r ih =>
    have hlo : o < cur.length := by simp at hl; omega
    have h1 := heap_setCell_same w g o _ t v h
    rw [List.setIfInBounds_toArray] at h1
    have := ih (o + 1) (w.setCell ⟨g, o, none⟩ v) (cur.set o v) h1 (by simp at hl ⊢; omega)
    show ((w.setCell ⟨g, o, none⟩ v).setCells g (o + 1) r).heap[g]? = _
    rw [this, List.take_set, List.drop_set_of_lt (by omega), List.take_succ_eq_append_getElem hlo, List.set_append_right _ _ (by simp; omega)]
    have e : o - (cur.take o).length = 0 := by simp; omega
    rw [e, List.set_cons_zero, List.length_cons, show o + 1 + r.length = o + (r.length + 1) by omega]
    simp

theorem setCells_fr (g : Nat) (vs : List Value) (o : Nat) (w : World) : Fr (fun k => k = g) w (w.setCells g o vs) := by
  induction vs generalizing o w with
  | nil => exact Fr.refl _ _
  | cons v r ih => exact ((Fr.refl (fun k => k = g) w).setCell (p := ⟨g, o, none⟩) (fun _ => rfl) v).trans (ih (o + 1) _) (fun _ _ h => h)

theorem flat_put {α : Type} {L : List (List α)} {n : Nat} (h : ∀ c ∈ L, c.length = n) (i : Nat) (hi : i < L.length) (c : List α) : L.flatten.take (i * n) ++ c ++ L.flatten.drop (i * n + n) = (L.set i c).flatten := by
  induction L generalizing i with
  | nil => simp at hi
  | cons a t ih =>
    have ha := h a (List.mem_cons_self ..)
    cases i with
    | zero =>
      rw [Nat.zero_mul, List.take_zero, List.nil_append, Nat.zero_add, List.flatten_cons, List.drop_append_of_le_length (by omega), List.drop_of_length_le (by omega), List.nil_append]
      rfl
    | succ i =>
      have := ih (fun c hc => h c (List.mem_cons_of_mem _ hc)) i (by simpa using hi)
      rw [List.flatten_cons, Nat.succ_mul, List.take_append, List.take_of_length_le (by omega), show i * n + n - a.length = i * n by omega, List.drop_append, List.drop_of_length_le (by omega), show i * n + n + n - a.length = i * n + n by omega, List.nil_append, List.set_cons_succ, List.flatten_cons, ← this]
      simp

/-- A write has become stable. -/
def seW (d : Dk) (q : Nat × List UInt8) : Dk := { d with S := d.S.set q.1 (q.2, 0), n := d.n + 1 }

theorem seW_ok {d : Dk} (h : d.Ok) (q : Nat × List UInt8) (hq : q.2.length = d.size) (hn : d.n < 1000000000) : (seW d q).Ok :=
  ⟨h.size, by simpa [seW] using h.len, fun x hx => by
    rcases List.mem_or_eq_of_mem_set hx with hx | rfl
    · exact h.sec x hx
    · exact ⟨hq, show (0 : UInt8).toNat ≤ 2 by decide⟩, fun q hq => ⟨(h.wr q hq).1, by simpa [seW] using (h.wr q hq).2⟩, h.room, by show d.n + 1 ≤ _; omega, by simpa [seW] using h.lay⟩

section
variable (w : World) (p gs : Nat) (qv : Value) (d : Dk)

set_option maxHeartbeats 1000000 in
set_option maxRecDepth 100000 in
theorem settle_any (i : Nat) (hi : i < d.Q.length) (g cap : Nat) (hn : d.n < 1000000000) (h : KAt w p gs (.slice (some ⟨g, 0, none⟩) d.Q.length cap) d) : Calls Try.prog 53 #[.pointer (some ⟨p, 0, none⟩), .pointer (some ⟨g, i * 513, none⟩)] w fun e w' => e = .returned (.tuple #[]) ∧ KAt w' p gs (.slice (some ⟨g, 0, none⟩) d.Q.length cap) (seW d (d.Q[i])) ∧ Fr (fun k => k = p ∨ k = gs) w w' := by
  have c1 := cell_of_heap h.heap 1
  have c4 := cell_of_heap h.heap 4
  have z4 := frozen_of_heap h.heap 4
  simp at c1 c4
  obtain ⟨g', cap', hv, -, -, y1, r1⟩ := h.wbytes i hi
  simp only [Value.slice.injEq, Option.some.injEq, Addr.mk.injEq] at hv
  obtain ⟨⟨rfl, -, -⟩, -, rfl⟩ := hv
  have hu := Try.u89
  have hwr := h.ok.wr _ (List.getElem_mem hi)
  have hpl : (pad (d.Q[i]).2).length = 512 := pad_length (by rw [hwr.1]; exact h.ok.size.2)
  have hq := hwr.2
  generalize d.Q[i] = q at *
  obtain ⟨cs, hcs⟩ : ∃ cs, cs = bvs (pad q.2) := ⟨_, rfl⟩
  have hcl : cs.length = 512 := by rw [hcs, bvs_length]; exact hpl
  have hrng : w.rangeAt g (i * 513 + 1) cs := by
    intro j v hv
    obtain ⟨b', o', e, -, -, -, hc⟩ := r1.lits (by omega)
    simp only [Option.some.injEq, Addr.mk.injEq] at e
    obtain ⟨rfl, rfl, -⟩ := e
    have hj : j < cs.length := (List.getElem?_eq_some_iff.1 hv).1
    rw [hc j (by omega)]
    rw [hcs, bvs_get _ j (by omega)] at hv
    exact hv
  obtain ⟨cs2, hc2⟩ : ∃ cs2, cs2 = cs ++ [Value.int .u8 0] := ⟨_, rfl⟩
  have hl2 : cs2.length = 513 := by rw [hc2, List.length_append, hcl]; rfl
  have hi92 : (Try.prog.info? 92).map (·.size) = some cs2.length := by rw [hl2]; exact Try.s92
  have hone2 : ∀ v ∈ cs2, v.oneCell' = true := by
    intro v hv
    rw [hc2, hcs] at hv
    rcases List.mem_append.1 hv with hv | hv
    · exact bvs_one _ v hv
    · simp at hv; subst hv; rfl
  have hle : (q.1 + 1) * 513 ≤ d.S.length * 513 := Nat.mul_le_mul_right _ hq
  have hthere : w.there gs (q.1 * 513) 513 := by
    intro j hj
    refine ⟨?_, frozen_of_heap h.secs _⟩
    rw [cell_of_heap h.secs, List.getElem?_toArray, List.getElem?_eq_getElem (by rw [List.length_append, secF_len h.ok]; omega)]
    rfl
  have hi89 : (Try.prog.info? 89).map (·.size) = some cs.length := by rw [hcl]; exact Try.s89
  obtain ⟨zs, hzv, hzsz, hzf⟩ := zero92_fold
  have hA : (cs.length = 512) ↔ True := by simp [hcl]
  have hB : (zs.size < cs.length) ↔ False := by rw [hzsz, hcl]; simp
  have hF := hzf cs hcl
  rw [← hc2] at hF
  clear hzf hzsz
  have hst := run_storeCells_cells (P := Try.prog) gs (q.1 * 513) cs2 0 w.drew (fun j hj => by simpa using (hthere j (by omega)).1) (fun j hj => by simpa using (hthere j (by omega)).2) hone2
  rw [Nat.add_zero] at hst
  obtain ⟨w2, hw2⟩ : ∃ w2, w2 = w.drew.setCells gs (q.1 * 513) cs2 := ⟨_, rfl⟩
  rw [← hw2] at hst
  have f2 : Fr (fun k => k = gs) w w2 := by rw [hw2]; exact ((Fr.refl (fun k => k = gs) w).drew).trans (setCells_fr gs cs2 _ _) (fun _ _ h => h)
  have hh2 := setCells_heap gs 92 cs2 (q.1 * 513) w.drew (secF d.S ++ d.rest) h.secs (by rw [List.length_append, secF_len h.ok, hl2]; omega)
  rw [← hw2, hl2] at hh2
  have hpg := h.ne
  have hgg : g ≠ gs := by
    rintro rfl
    rcases h.queue.2 with ⟨hv, -⟩ | ⟨g', cap', cur, hv, -, h1, -⟩
    · simp at hv
    · simp only [Value.slice.injEq, Option.some.injEq, Addr.mk.injEq] at hv
      rw [← hv.1.1, h.secs] at h1
      simp at h1
  have s1 : w2.cell? ⟨p, 1, none⟩ = some (.slice (some ⟨gs, 0, none⟩) d.S.length d.cap) := (f2.cell (a := ⟨p, 1, none⟩) (lt_of_heap h.heap) hpg).trans c1
  have s4 : w2.cell? ⟨p, 4, none⟩ = some (.int .i64 (d.n : Int)) := (f2.cell (a := ⟨p, 4, none⟩) (lt_of_heap h.heap) hpg).trans c4
  have z42 : w2.frozen? ⟨p, 4, none⟩ = false := (f2.frozen (a := ⟨p, 4, none⟩) (lt_of_heap h.heap) hpg).trans z4
  have s2 : w2.cell? ⟨g, i * 513, none⟩ = some (.int .i64 (q.1 : Int)) := (f2.cell (a := ⟨g, i * 513, none⟩) (World.block_lt_of_cell? w _ y1) hgg).trans y1
  have s3 : w2.rangeAt g (i * 513 + 1) cs := by rw [hw2]; exact World.rangeAt_setCells_apart (w := w.drew) hrng gs _ cs2 (.inl hgg)
  have s5 : w2.there gs (q.1 * 513) 513 := by rw [hw2]; exact World.there_setCells (w := w.drew) hthere gs _ cs2
  have hlen := h.ok.len
  have hpgq : p ≠ g := by
    rintro rfl
    rcases h.queue.2 with ⟨hv, -⟩ | ⟨g', cap', cur, hv, -, h1, -⟩
    · simp at hv
    · simp only [Value.slice.injEq, Option.some.injEq, Addr.mk.injEq] at hv
      rw [← hv.1.1, h.heap] at h1
      simp at h1
  have hsec : (secF d.S ++ d.rest).take (q.1 * 513) ++ cs2 ++ (secF d.S ++ d.rest).drop (q.1 * 513 + 513) = secF (d.S.set q.1 (q.2, 0)) ++ d.rest := by
    rw [List.take_append_of_le_length (by rw [secF_len h.ok]; omega), List.drop_append_of_le_length (by rw [secF_len h.ok]; omega), ← List.append_assoc]
    congr 1
    have := flat_put h.ok.secl q.1 (by simpa using hq) cs2
    unfold secF
    rw [this, List.map_set]
    congr 2
    rw [hc2, hcs]
    rfl
  have hK : KAt (w2.setCell ⟨p, 4, none⟩ (.int .i64 ((d.n + 1 : Nat) : Int))) p gs (.slice (some ⟨g, 0, none⟩) d.Q.length cap) (seW d q) ∧ Fr (fun k => k = p ∨ k = gs) w (w2.setCell ⟨p, 4, none⟩ (.int .i64 ((d.n + 1 : Nat) : Int))) := by
    have hp2 : w2.heap[p]? = _ := (f2.block p (lt_of_heap h.heap) hpg).trans h.heap
    have f3 : Fr (fun k => k = p) w2 (w2.setCell ⟨p, 4, none⟩ (.int .i64 ((d.n + 1 : Nat) : Int))) := (Fr.refl (fun k => k = p) w2).setCell (p := ⟨p, 4, none⟩) (fun _ => rfl) _
    have f13 : Fr (fun k => k = p ∨ k = gs) w (w2.setCell ⟨p, 4, none⟩ (.int .i64 ((d.n + 1 : Nat) : Int))) := (f2.mono (fun _ _ e => .inr e)).trans f3 (fun _ _ e => .inl e)
    refine ⟨⟨?_, ?_, ?_, seW_ok h.ok q hwr.1 hn⟩, f13⟩
    · rw [heap_setCell_same w2 p 4 _ 78 _ hp2]
      simp [seW]
    · rw [f3.block gs (lt_of_heap hh2) (fun e => hpg e.symm), hh2, hsec]
      rfl
    · exact owns_kept h.queue f13 (fun b hb e => by
        simp [Value.ownBlock] at hb
        subst hb
        rcases e with e | e
        · exact hpgq e.symm
        · exact hgg e)
  have HK := hide hK
  obtain ⟨n1, hn1⟩ : ∃ n1, n1 = d.n + 1 := ⟨_, rfl⟩
  rw [← hn1] at HK
  have en : (d.n : Int) + 1 = (n1 : Int) := by omega
  have wn : IntKind.i64.wrap (n1 : Int) = (n1 : Int) := by rw [IntKind.wrap_i64]; omega
  have hA2 : (cs2.length = 513) ↔ True := by simp [hl2]
  clear h r1 hpl hcs hcl hwr hc2 hle hl2 hsec hK hh2 f2 hw2 hn1
  go_enter Try.func53, Try.ntmps53
  go_wp2_with fail
  go_region_held3 (fun W => W.cell? ⟨p, 1, none⟩ = some (.slice (some ⟨gs, 0, none⟩) d.S.length d.cap) ∧ W.cell? ⟨g, i * 513, none⟩ = some (.int .i64 (q.1 : Int)) ∧ W.rangeAt g (i * 513 + 1) cs ∧ W.there gs (q.1 * 513) 513) (go_keep) (fail)
  all_goals
    go_wp2_with fail
    go_end0
    exact ⟨rfl, unhide HK⟩
end

end Go.Proofs.Ytdhendcogjhgfaa
