/-
  The walks of package rs: the shards at hand.
-/
import Derived.Test.YtckmddkhkdcmmaaRs5
namespace Go.Proofs.Ytckmddkhkdcmmaa
open Go.RowKit
set_option linter.unusedVariables false

attribute [local go_sem ↓] Go.wp_at_zero Go.wp_at_succ

theorem Try.info3 : (Try.prog.info? 3).map (fun i => (i.zero, i.size, i.bytes)) = some (some (.int .i64 0), 1, 8) := by kernel_rfl

theorem one_cellV (w : World) (x : Value) (e : TypeId) : Sr (w.alloc (Obj.cells #[x] e)) 1 (.slice (some ⟨w.heap.size, 0, none⟩) 1 1) 1 [x] := by
  refine .inr ⟨_, _, rfl, rfl, fun j u hu => ?_⟩
  rw [Addr.add_lit, Nat.zero_add, cell_of_heap (heap_alloc_new w _)]
  simpa using hu

theorem owns_nilE (w : World) (e : TypeId) : w.ownsRow 0 e 1 (.slice none 0 0) 0 [] := ⟨rfl, .inl ⟨rfl, rfl⟩⟩

theorem owns_ty {w : World} {e : TypeId} {v : Value} {n : Nat} {xs : List Value} (h : w.ownsRow 0 e 1 v n xs) {b : Nat} (hb : v.ownBlock = some b) : TyAt w b e := by
  rcases h.2 with ⟨rfl, -⟩ | ⟨g, cap, cur, rfl, -, hg, -⟩
  · simp [Value.ownBlock] at hb
  · simp [Value.ownBlock] at hb
    subst hb
    exact ⟨_, hg⟩

/-- Two rows of unlike types lie in two blocks. -/
theorem owns_apart {w : World} {e f : TypeId} {v u : Value} {n m : Nat} {xs ys : List Value} (h : w.ownsRow 0 e 1 v n xs) (k : w.ownsRow 0 f 1 u m ys) (hef : e ≠ f) {b : Nat} (hb : v.ownBlock = some b) : ¬ u.ownBlock = some b :=
  fun hu => TyAt.ne (owns_ty h hb) (owns_ty k hu) hef rfl

/-- The numbers of those with have, of the first i. -/
def wlK (bs : List Bool) (i : Nat) : List Nat := (List.range i).filter (fun j => bs[j]?.getD false)
def wl (bs : List Bool) : List Nat := wlK bs bs.length
theorem wlK_yes {bs : List Bool} {i : Nat} (h : bs[i]?.getD false = true) : wlK bs (i + 1) = wlK bs i ++ [i] := by
  unfold wlK
  rw [List.range_succ, List.filter_append]
  simp [h]
theorem wlK_no {bs : List Bool} {i : Nat} (h : bs[i]?.getD false = false) : wlK bs (i + 1) = wlK bs i := by
  unfold wlK
  rw [List.range_succ, List.filter_append]
  simp [h]
theorem wlK_le (bs : List Bool) (i : Nat) : (wlK bs i).length ≤ i := by
  unfold wlK
  have := List.length_filter_le (fun j => bs[j]?.getD false) (List.range i)
  simpa using this
theorem wlK_lt {bs : List Bool} {i j : Nat} (h : j ∈ wlK bs i) : j < i := by
  unfold wlK at h
  exact List.mem_range.1 (List.mem_filter.1 h).1
theorem wl_nodup (bs : List Bool) : (wl bs).Nodup := List.nodup_range.filter _

def ints (l : List Nat) : List Value := l.map (fun (i : Nat) => Value.int .i64 (i : Int))
/-- The shards with have. -/
def hl (ls : List (List UInt8)) (bs : List Bool) : List (List UInt8) := (wl bs).map (fun j => ls[j]?.getD [])

theorem hl_length (ls : List (List UInt8)) (bs : List Bool) : (hl ls bs).length = (wl bs).length := by simp [hl]

def vals (vs : List Value) (l : List Nat) : List Value := l.map (fun j => vs[j]?.getD (.slice none 0 0))

theorem vals_one {vs : List Value} {l : List Nat} (h : ∀ x ∈ vs, x.oneCell' = true) (u : Value) (hu : u ∈ vals vs l) : u.oneCell' = true := by
  obtain ⟨j, hj, rfl⟩ := List.mem_map.1 hu
  cases e : vs[j]? with
  | none => rfl
  | some x => exact h x (List.mem_of_getElem? e)

set_option maxHeartbeats 2000000 in
set_option maxRecDepth 100000 in
theorem atHand_any (w : World) (v hv : Value) (ls : List (List UInt8)) (bs : List Bool) (h : RdL w v ls) (hb : RdV w hv (bs.map Value.bool)) (hl1 : ls.length ≤ 100) (hlb : bs.length = ls.length) :
    Calls Try.prog 98 #[v, hv] w fun e w' => (∃ ao ac wo wc, e = .returned (.tuple #[.slice ao (wl bs).length ac, .slice wo (wl bs).length wc]) ∧ RdL w' (.slice ao (wl bs).length ac) (hl ls bs) ∧ RdV w' (.slice wo (wl bs).length wc) (ints (wl bs))) ∧ Fr (fun _ => False) w w' := by
  obtain ⟨vs, hV, hvl, hrow⟩ := h
  have hRV := hV.shape
  obtain ⟨vo, vc, rfl⟩ := hRV
  obtain ⟨bo, bc, rfl⟩ := hb.shape
  rw [List.length_map] at hb ⊢
  obtain ⟨n, hn⟩ : ∃ n, n = vs.length := ⟨_, rfl⟩
  have hone : ∀ (i : Nat) (x : Value), vs[i]? = some x → ∃ xo xl xc, x = .slice xo xl xc := by
    intro i x hx
    have hi := (List.getElem?_eq_some_iff.1 hx).1
    have := hrow i x (ls[i]'(by omega)) hx (List.getElem?_eq_getElem _)
    obtain ⟨a1, a2, rfl⟩ := this.shape
    exact ⟨a1, _, a2, rfl⟩
  obtain ⟨inf, hi0, hz0, hz1, hz2⟩ := info_parts Try.info22
  obtain ⟨inf3, hi3, hy0, hy1, hy2⟩ := info_parts Try.info3
  have HV := hide hV
  have HB := hide hb
  have HR := hide hrow
  have HO := hide hone
  have hbn : bs.length = n := by omega
  rw [← hn] at HV ⊢
  rw [hbn] at HB ⊢
  have hn1 : n ≤ 100 := by omega
  have HN := hide hn
  have HLN := hide hvl
  have HBN := hide hbn
  clear hV hb hrow hone hn hvl hlb hbn hl1
  go_enter Try.func98, Try.ntmps98
  go_wp2_with fail
  go_loopw [6, 7, 12] (fun hx wx x w' => ∃ i : Nat, i ≤ n ∧ x = .int .i64 (i : Int) ∧
      (∃ ao ac, hx = .slice ao (wlK bs i).length ac ∧ w'.ownsRow 0 22 1 (.slice ao (wlK bs i).length ac) (wlK bs i).length (vals vs (wlK bs i)) ∧ ∀ b, (Value.slice ao (wlK bs i).length ac).ownBlock = some b → w.heap.size ≤ b) ∧
      (∃ wo wc, wx = .slice wo (wlK bs i).length wc ∧ w'.ownsRow 0 3 1 (.slice wo (wlK bs i).length wc) (wlK bs i).length (ints (wlK bs i)) ∧ ∀ b, (Value.slice wo (wlK bs i).length wc).ownBlock = some b → w.heap.size ≤ b) ∧ Fr (fun _ => False) w w') (fun _ _ x _ => n - (intOf x).toNat)
  case atStart => exact ⟨0, by omega, rfl, ⟨none, 0, rfl, owns_nilE w 22, fun b hb => by simp [Value.ownBlock] at hb⟩, ⟨none, 0, rfl, owns_nilE w 3, fun b hb => by simp [Value.ownBlock] at hb⟩, Fr.refl _ _⟩
  case round =>
    obtain ⟨i, hi, rfl, ⟨ao, ac, rfl, hO1, hN1⟩, ⟨wo, wc, rfl, hO2, hN2⟩, hf⟩ := hrel
    by_cases hlt : i < n
    · obtain ⟨b, o, rfl, -, -, -, hcv⟩ := ((unhide HV).kept hf (fun _ _ h => h)).lits (by have := unhide HN; omega)
      obtain ⟨b2, o2, rfl, -, -, -, hcb⟩ := ((unhide HB).kept hf (fun _ _ h => h)).lits (by have := unhide HBN; simp; omega)
      have hib : i < bs.length := by have := unhide HBN; omega
      have hiv : i < vs.length := by have := unhide HN; omega
      have c1 := hcv i hiv
      have c2 := hcb i (by simpa using hib)
      rw [List.getElem_map] at c2
      obtain ⟨xo, xl, xc, hxs⟩ := unhide HO i vs[i] (List.getElem?_eq_getElem _)
      have hbi : bs[i]?.getD false = bs[i] := by rw [List.getElem?_eq_getElem hib]; rfl
      have hxi : vs[i]?.getD (.slice none 0 0) = vs[i] := by rw [List.getElem?_eq_getElem hiv]; rfl
      have HO1 := hide hO1
      have HO2 := hide hO2
      have HN1 := hide hN1
      have HN2 := hide hN2
      have Hf := hide hf
      have HXI := hide hxi
      have hle := wlK_le bs i
      clear hcv hcb hO1 hO2 hN1 hN2 hf hxi
      rw [hxs] at c1 HXI
      clear hxs
      rcases hbv : bs[i] with _ | _
      · rw [hbv] at hbi c2
        have HW := hide (wlK_no hbi)
        clear hbi hbv
        go_wp2_with fail
        go_roundw
        case rel => exact ⟨i + 1, by omega, by go_num, by rw [unhide HW]; exact ⟨ao, ac, rfl, unhide HO1, unhide HN1⟩, by rw [unhide HW]; exact ⟨wo, wc, rfl, unhide HO2, unhide HN2⟩, unhide Hf⟩
        case measure => simp [intOf]; omega
      · rw [hbv] at hbi c2
        have HW := hide (wlK_yes hbi)
        clear hbi hbv
        obtain ⟨kk, hkk⟩ : ∃ kk, kk = (wlK bs i).length := ⟨_, rfl⟩
        rw [← hkk] at HO1 HO2 HN1 HN2 hle ⊢
        have HKK := hide hkk
        clear hkk
        go_wp2_with (at_builtin; refine wpList_app rfl (.tmp 21) (.tmp 23) 65 rfl 22 inf _ 1 24 Try.underlying65 hi0 hz0 hz1 hz2 rfl (by decide) (.slice ao kk ac) kk (vals vs (wlK bs i)) rfl (.slice (some ⟨wr.heap.size, 0, none⟩) 1 1) rfl 1 [.slice xo xl xc] ((unhide HO1).alloc _) (one_cellV wr _ 22) (fun u hu => by simp at hu; subst hu; rfl) (by omega) (by simp only [maxLen]; omega) ?_)
        intro ao2 ac2 w2 o2' hg2 hpl2
        have f2 : Fr (fun k => (Value.slice ao kk ac).ownBlock = some k) wr w2 := Fr.grown (S := fun k => (Value.slice ao kk ac).ownBlock = some k) (w := wr.alloc _) ((Fr.refl _ _).alloc _) hg2 (fun k hk e => e)
        have hO2b := owns_kept (unhide HO2) f2 (fun k hk => owns_apart (unhide HO2) (unhide HO1) (by decide) hk)
        have F2 : Fr (fun _ => False) w w2 := (unhide Hf).trans f2 (fun k hk e => by have := unhide HN1 k e; omega)
        have hn1 : ∀ b, (Value.slice ao2 (kk + 1) ac2).ownBlock = some b → w.heap.size ≤ b := by
          intro b hb
          rcases hpl2 with e | ⟨k', e, hk'⟩
          · rw [e] at hb; exact unhide HN1 b hb
          · rw [e] at hb
            have z1 := (unhide Hf).size
            simp at hb hk'
            omega
        have HO1' := hide o2'
        have HO2' := hide hO2b
        have HF2 := hide F2
        have HN1' := hide hn1
        clear o2' hg2 hpl2 f2 hO2b F2 hn1
        go_wp2_with (at_builtin; refine wpList_app rfl (.tmp 25) (.tmp 27) 25 rfl 3 inf3 _ 1 8 Try.underlying25 hi3 hy0 hy1 hy2 rfl (by decide) (.slice wo kk wc) kk (ints (wlK bs i)) rfl (.slice (some ⟨w2.heap.size, 0, none⟩) 1 1) rfl 1 [.int .i64 (i : Int)] ((unhide HO2').alloc _) (one_cellV w2 _ 3) (fun u hu => by simp at hu; subst hu; rfl) (by omega) (by simp only [maxLen]; omega) ?_)
        intro wo3 wc3 w3 o3 hg3 hpl3
        have f3 : Fr (fun k => (Value.slice wo kk wc).ownBlock = some k) w2 w3 := Fr.grown (S := fun k => (Value.slice wo kk wc).ownBlock = some k) (w := w2.alloc _) ((Fr.refl _ _).alloc _) hg3 (fun k hk e => e)
        have hO1c := owns_kept (unhide HO1') f3 (fun k hk => owns_apart (unhide HO1') (unhide HO2') (by decide) hk)
        have F3 : Fr (fun _ => False) w w3 := (unhide HF2).trans f3 (fun k hk e => by have := unhide HN2 k e; omega)
        have hn2 : ∀ b, (Value.slice wo3 (kk + 1) wc3).ownBlock = some b → w.heap.size ≤ b := by
          intro b hb
          rcases hpl3 with e | ⟨k', e, hk'⟩
          · rw [e] at hb; exact unhide HN2 b hb
          · rw [e] at hb
            have z1 := (unhide HF2).size
            simp at hb hk'
            omega
        have HO1'' := hide hO1c
        have HO2'' := hide o3
        have HF3 := hide F3
        have HN2' := hide hn2
        clear o3 hg3 hpl3 f3 hO1c F3 hn2
        go_wp2_with fail
        go_roundw
        case rel =>
          have hw := unhide HW
          have hlen : (wlK bs (i + 1)).length = kk + 1 := by rw [hw, List.length_append, ← unhide HKK]; rfl
          have e1 : vals vs (wlK bs (i + 1)) = vals vs (wlK bs i) ++ [.slice xo xl xc] := by rw [hw]; unfold vals; rw [List.map_append]; simp [unhide HXI]
          have e2 : ints (wlK bs (i + 1)) = ints (wlK bs i) ++ [.int .i64 (i : Int)] := by rw [hw]; unfold ints; rw [List.map_append]; rfl
          refine ⟨i + 1, by omega, by go_num, ?_, ?_, unhide HF3⟩
          · rw [hlen, e1]; exact ⟨ao2, ac2, rfl, unhide HO1'', unhide HN1'⟩
          · rw [hlen, e2]; exact ⟨wo3, wc3, rfl, unhide HO2'', unhide HN2'⟩
        case measure => simp [intOf]; omega
    · have hie : i = n := by omega
      subst hie
      have HO1 := hide hO1
      have HO2 := hide hO2
      have Hf := hide hf
      clear hO1 hO2 hN1 hN2 hf
      go_wp2_with fail
      go_ret2
      have ewl : wlK bs i = wl bs := by unfold wl; rw [unhide HBN]
      rw [ewl] at HO1 HO2 ⊢
      refine ⟨⟨ao, ac, wo, wc, rfl, ⟨vals vs (wl bs), ?_, by simp [vals, hl], ?_⟩, ?_⟩, unhide Hf⟩
      · have := RdV.of_owns (l := vals vs (wl bs)) (v := .slice ao (wl bs).length ac) (w := wr) (e := 22) (base := 0) (by rw [show (vals vs (wl bs)).length = (wl bs).length by simp [vals]]; exact unhide HO1)
        exact this
      · intro j x l hx hl'
        unfold vals at hx
        unfold hl at hl'
        rw [List.getElem?_map] at hx hl'
        cases ej : (wl bs)[j]? with
        | none => rw [ej] at hx; simp at hx
        | some jj =>
          rw [ej] at hx hl'
          have hjj : jj < i := by
            have := List.mem_of_getElem? ej
            rw [← ewl] at this
            exact wlK_lt this
          have h1 : jj < vs.length := by rw [← unhide HN]; exact hjj
          have h2 : jj < ls.length := by rw [← unhide HLN]; exact h1
          simp [List.getElem?_eq_getElem h1] at hx
          simp [List.getElem?_eq_getElem h2] at hl'
          subst hx hl'
          exact (unhide HR jj _ _ (List.getElem?_eq_getElem h1) (List.getElem?_eq_getElem h2)).kept (unhide Hf) (fun _ _ h => h)
      · exact RdV.of_owns (l := ints (wl bs)) (v := .slice wo (wl bs).length wc) (w := wr) (e := 3) (base := 0) (by rw [show (ints (wl bs)).length = (wl bs).length by simp [ints]]; exact unhide HO2)

end Go.Proofs.Ytckmddkhkdcmmaa
