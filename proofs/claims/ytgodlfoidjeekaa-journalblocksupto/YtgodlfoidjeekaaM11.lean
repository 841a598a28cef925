/-
  The document's PutSuper, PutEntry: further regions.
  The document's PutSuper.
  The document's PutEntry.
  The document's PutTx: its drawn region.
  The document's PutTx.
  The document's GetSuper.
  sameEntry.
  Same.
-/
import Derived.Test.YtgodlfoidjeekaaM10
namespace Go.Proofs.Ytgodlfoidjeekaa
set_option linter.unusedVariables false
set_option linter.unusedSimpArgs false
open Go.RowKit Go.Lib
set_option linter.unusedVariables false
set_option linter.unusedSimpArgs false

attribute [local go_sem ↓] Go.wp_at_zero Go.wp_at_succ

theorem x_len23 {ρ : Operand → Value} {o : Oper} {w : World} {x : Operand} {ao : Option Addr} {n c : Nat} (ho : o.op = .call { callee := .builtin .len, args := #[x], argTypes := #[23] }) (hx : ρ x = .slice ao n c) : (execOp ρ o).run Try.prog w = .ok (.value (.int .i64 (n : Int))) w := by
  simp [execOp, ho, hx, go_sem]
set_option maxHeartbeats 8000000 in
set_option maxRecDepth 100000 in
theorem gr14_4 {W0 W : World} {p : Nat} {n2 n3 n4 n5 : Nat} {x0 x1 : Value} {v4 : Value} {l : List UInt8} {u0 u2 u3 u5 u6 u7 u8 u9 u10 u11 u12 u13 u14 u15 u16 u17 u18 u19 u20 u21 u22 u23 u24 u25 u26 u27 u28 u29 u30 u31 u32 u33 u34 u35 u36 u37 u38 u39 u40 u41 u42 u43 u44 u45 u46 u47 u48 u49 u50 u51 u52 u53 u54 u55 u56 u57 u58 u59 u60 u61 u62 u63 u64 u65 : Value} {Q : Exit → Act → World → Prop} (hN : Nb W0 W v4 l) (hp : W.heap[p]? = some (.cells #[x0, x1, .int .u64 (n2 : Int), .int .u64 (n3 : Int), .int .u64 (n4 : Int), .int .u64 (n5 : Int)] 27 (0, 0))) (hn2 : n2 < 18446744073709551616) (hn3 : n3 < 18446744073709551616) (hl : l.length ≤ 300)
    (hQ : ∀ (y51 y52 y53 y54 y55 y56 y57 : Value) (v' : Value) (W' : World), Nb W0 W' v' ((l ++ be 8 n2) ++ be 8 n3) → W'.heap[p]? = some (.cells #[x0, x1, .int .u64 (n2 : Int), .int .u64 (n3 : Int), .int .u64 (n4 : Int), .int .u64 (n5 : Int)] 27 (0, 0)) → W.heap.size ≤ W'.heap.size → Q .normal ⟨#[u0, .pointer (some ⟨p, 0, none⟩), u2, u3, v', u5, u6, u7, u8, u9, u10, u11, u12, u13, u14, u15, u16, u17, u18, u19, u20, u21, u22, u23, u24, u25, u26, u27, u28, u29, u30, u31, u32, u33, u34, u35, u36, u37, u38, u39, u40, u41, u42, u43, u44, u45, u46, u47, u48, u49, u50, y51, y52, y53, y54, y55, y56, y57, u58, u59, u60, u61, u62, u63, u64, u65], []⟩ W') : (rgF Try.f14 4).wp Try.prog Q ⟨#[u0, .pointer (some ⟨p, 0, none⟩), u2, u3, v4, u5, u6, u7, u8, u9, u10, u11, u12, u13, u14, u15, u16, u17, u18, u19, u20, u21, u22, u23, u24, u25, u26, u27, u28, u29, u30, u31, u32, u33, u34, u35, u36, u37, u38, u39, u40, u41, u42, u43, u44, u45, u46, u47, u48, u49, u50, u51, u52, u53, u54, u55, u56, u57, u58, u59, u60, u61, u62, u63, u64, u65], []⟩ W := by
  have HQ := hide hQ
  clear hQ
  conv => arg 2; whnf
  refine wp_nm ?_
  intro a0 hA
  have s1 : a0.tmps.getD 1 undef = .pointer (some ⟨p, 0, none⟩) := by rw [hA]; rfl
  have s4 : a0.tmps.getD 4 undef = v4 := by rw [hA]; rfl
  have hsz : a0.tmps.size = 66 := by rw [hA]; rfl
  have hdf : a0.defers = [] := by rw [hA]
  refine wp_region_chainA (by kernel_rfl) (by kernel_rfl) (by decide +kernel) (by rw [hsz]; decide +kernel) (fun w w' => RY (fun b => v4.ownBlock = some b ∨ W.heap.size ≤ b) w w') (RY.of_fr (Fr.refl _ _).drew) (fun _ _ _ => RY.trans) (Tw [KV.any, KV.eq (.pointer (some ⟨p, 2, none⟩)), KV.eq (.int .u64 (n2 : Int)), KV.any, KV.eq (.pointer (some ⟨p, 3, none⟩)), KV.eq (.int .u64 (n3 : Int)), KV.any, KV.any]) (Tw.mono _) [0, 3, 6, 7] (by decide) (by decide) (fun k i j h1 h2 => ?cp) (StC (fun b => v4.ownBlock = some b) W [some (4, l), some (51, l), some (54, (l ++ be 8 n2)), some (57, ((l ++ be 8 n2) ++ be 8 n3)), some (4, ((l ++ be 8 n2) ++ be 8 n3))]) ?st0 ?steps ?done
  case cp =>
    match k, h1, h2 with
    | 0, h1, h2 => simp at h1 h2; subst h1; subst h2; exact .one rfl (by kernel_rfl)
    | 1, h1, h2 => simp at h1 h2; subst h1; subst h2; exact .one rfl (by kernel_rfl)
    | 2, h1, h2 => simp at h1 h2; subst h1; subst h2; exact .one rfl (by kernel_rfl)
    | 3, h1, h2 => simp at h2
    | k + 4, h1, h2 => simp at h2
  case st0 =>
    intro s l' e
    simp at e
    obtain ⟨rfl, rfl⟩ := e
    rw [s4]
    exact hN.nw.kept (Fr.refl _ _).drew
  case steps =>
    have HC2 : ∀ w', RY (fun b => v4.ownBlock = some b ∨ W.heap.size ≤ b) W w' → w'.cell? ⟨p, 2, none⟩ = some (.int .u64 (n2 : Int)) := fun w' f => by rw [cell_of_heap (f.oth _ _ _ _ (by decide) hp)]; rfl
    have HC3 : ∀ w', RY (fun b => v4.ownBlock = some b ∨ W.heap.size ≤ b) W w' → w'.cell? ⟨p, 3, none⟩ = some (.int .u64 (n3 : Int)) := fun w' f => by rw [cell_of_heap (f.oth _ _ _ _ (by decide) hp)]; rfl
    refine ⟨?_, ?_⟩
    · intro a' w' k hb hR hst hck hle hd
      obtain rfl : 0 = k := hck 0 rfl
      have hn := hst 4 _ rfl
      exact .inl ⟨wanted_none rfl, ch_move (by decide) (.inl rfl) rfl rfl (by rw [hb.size, hsz]; decide) rfl hn (fun _ _ => trivial)⟩
    refine ⟨?_, ?_⟩
    · intro a' w' k hb hR hst hck hle hd
      exact .inl ⟨wanted_none rfl, la_val _ _ (by decide) (x_f27_2 rfl ((hb.old 1 (by decide +kernel)).trans s1)) rfl (RY.of_fr (Fr.refl _ _)) (hst.put rfl (Fr.refl _ _))⟩
    refine ⟨?_, ?_⟩
    · intro a' w' k hb hR hst hck hle hd
      exact .inl ⟨wanted_none rfl, la_val _ _ (by decide) (x_load1 ld22 rfl (hd 1 (by kernel_rfl) 52 rfl) (HC2 w' hR)) rfl (RY.of_fr (Fr.refl _ _)) (hst.put rfl (Fr.refl _ _))⟩
    refine ⟨?_, ?_⟩
    · intro a' w' k hb hR hst hck hle hd
      obtain rfl : 1 = k := hck 1 rfl
      have hn := hst 51 _ rfl
      have e1 : a'.tmps.getD 53 undef = .int .u64 (n2 : Int) := hd 2 (by kernel_rfl) 53 rfl
      exact .inl ⟨wanted_none rfl, ch_put (by decide) rfl rfl rfl e1 rfl (.inr (.inr rfl)) (by first | omega | (simp only [List.length_append, be_length, List.length_replicate]; omega)) (by omega) rfl (by rw [hb.size, hsz]; decide) rfl hn (fun _ _ => trivial)⟩
    refine ⟨?_, ?_⟩
    · intro a' w' k hb hR hst hck hle hd
      exact .inl ⟨wanted_none rfl, la_val _ _ (by decide) (x_f27_3 rfl ((hb.old 1 (by decide +kernel)).trans s1)) rfl (RY.of_fr (Fr.refl _ _)) (hst.put rfl (Fr.refl _ _))⟩
    refine ⟨?_, ?_⟩
    · intro a' w' k hb hR hst hck hle hd
      exact .inl ⟨wanted_none rfl, la_val _ _ (by decide) (x_load1 ld22 rfl (hd 4 (by kernel_rfl) 55 rfl) (HC3 w' hR)) rfl (RY.of_fr (Fr.refl _ _)) (hst.put rfl (Fr.refl _ _))⟩
    refine ⟨?_, ?_⟩
    · intro a' w' k hb hR hst hck hle hd
      obtain rfl : 2 = k := hck 2 rfl
      have hn := hst 54 _ rfl
      have e1 : a'.tmps.getD 56 undef = .int .u64 (n3 : Int) := hd 5 (by kernel_rfl) 56 rfl
      exact .inl ⟨wanted_none rfl, ch_put (by decide) rfl rfl rfl e1 rfl (.inr (.inr rfl)) (by first | omega | (simp only [List.length_append, be_length, List.length_replicate]; omega)) (by omega) rfl (by rw [hb.size, hsz]; decide) rfl hn (fun _ _ => trivial)⟩
    refine ⟨?_, ?_⟩
    · intro a' w' k hb hR hst hck hle hd
      obtain rfl : 3 = k := hck 3 rfl
      have hn := hst 57 _ rfl
      exact .inl ⟨wanted_none rfl, ch_move (by decide) (.inr rfl) rfl rfl (by rw [hb.size, hsz]; decide) rfl hn (fun _ _ => trivial)⟩
    exact trivial
  case done =>
    intro a' w' hb hR hst hall
    have hn := hst 4 _ rfl
    have hfr := frame_eq (a := a') (vs := [u0, .pointer (some ⟨p, 0, none⟩), u2, u3, a'.tmps.getD 4 undef, u5, u6, u7, u8, u9, u10, u11, u12, u13, u14, u15, u16, u17, u18, u19, u20, u21, u22, u23, u24, u25, u26, u27, u28, u29, u30, u31, u32, u33, u34, u35, u36, u37, u38, u39, u40, u41, u42, u43, u44, u45, u46, u47, u48, u49, u50, a'.tmps.getD 51 undef, a'.tmps.getD 52 undef, a'.tmps.getD 53 undef, a'.tmps.getD 54 undef, a'.tmps.getD 55 undef, a'.tmps.getD 56 undef, a'.tmps.getD 57 undef, u58, u59, u60, u61, u62, u63, u64, u65]) (by rw [hb.size, hsz]; rfl) (by rw [hb.defers, hdf]) ⟨(hb.old 0 (by decide +kernel)).trans (by rw [hA]; rfl), (hb.old 1 (by decide +kernel)).trans (by rw [hA]; rfl), (hb.old 2 (by decide +kernel)).trans (by rw [hA]; rfl), (hb.old 3 (by decide +kernel)).trans (by rw [hA]; rfl), rfl, (hb.old 5 (by decide +kernel)).trans (by rw [hA]; rfl), (hb.old 6 (by decide +kernel)).trans (by rw [hA]; rfl), (hb.old 7 (by decide +kernel)).trans (by rw [hA]; rfl), (hb.old 8 (by decide +kernel)).trans (by rw [hA]; rfl), (hb.old 9 (by decide +kernel)).trans (by rw [hA]; rfl), (hb.old 10 (by decide +kernel)).trans (by rw [hA]; rfl), (hb.old 11 (by decide +kernel)).trans (by rw [hA]; rfl), (hb.old 12 (by decide +kernel)).trans (by rw [hA]; rfl), (hb.old 13 (by decide +kernel)).trans (by rw [hA]; rfl), (hb.old 14 (by decide +kernel)).trans (by rw [hA]; rfl), (hb.old 15 (by decide +kernel)).trans (by rw [hA]; rfl), (hb.old 16 (by decide +kernel)).trans (by rw [hA]; rfl), (hb.old 17 (by decide +kernel)).trans (by rw [hA]; rfl), (hb.old 18 (by decide +kernel)).trans (by rw [hA]; rfl), (hb.old 19 (by decide +kernel)).trans (by rw [hA]; rfl), (hb.old 20 (by decide +kernel)).trans (by rw [hA]; rfl), (hb.old 21 (by decide +kernel)).trans (by rw [hA]; rfl), (hb.old 22 (by decide +kernel)).trans (by rw [hA]; rfl), (hb.old 23 (by decide +kernel)).trans (by rw [hA]; rfl), (hb.old 24 (by decide +kernel)).trans (by rw [hA]; rfl), (hb.old 25 (by decide +kernel)).trans (by rw [hA]; rfl), (hb.old 26 (by decide +kernel)).trans (by rw [hA]; rfl), (hb.old 27 (by decide +kernel)).trans (by rw [hA]; rfl), (hb.old 28 (by decide +kernel)).trans (by rw [hA]; rfl), (hb.old 29 (by decide +kernel)).trans (by rw [hA]; rfl), (hb.old 30 (by decide +kernel)).trans (by rw [hA]; rfl), (hb.old 31 (by decide +kernel)).trans (by rw [hA]; rfl), (hb.old 32 (by decide +kernel)).trans (by rw [hA]; rfl), (hb.old 33 (by decide +kernel)).trans (by rw [hA]; rfl), (hb.old 34 (by decide +kernel)).trans (by rw [hA]; rfl), (hb.old 35 (by decide +kernel)).trans (by rw [hA]; rfl), (hb.old 36 (by decide +kernel)).trans (by rw [hA]; rfl), (hb.old 37 (by decide +kernel)).trans (by rw [hA]; rfl), (hb.old 38 (by decide +kernel)).trans (by rw [hA]; rfl), (hb.old 39 (by decide +kernel)).trans (by rw [hA]; rfl), (hb.old 40 (by decide +kernel)).trans (by rw [hA]; rfl), (hb.old 41 (by decide +kernel)).trans (by rw [hA]; rfl), (hb.old 42 (by decide +kernel)).trans (by rw [hA]; rfl), (hb.old 43 (by decide +kernel)).trans (by rw [hA]; rfl), (hb.old 44 (by decide +kernel)).trans (by rw [hA]; rfl), (hb.old 45 (by decide +kernel)).trans (by rw [hA]; rfl), (hb.old 46 (by decide +kernel)).trans (by rw [hA]; rfl), (hb.old 47 (by decide +kernel)).trans (by rw [hA]; rfl), (hb.old 48 (by decide +kernel)).trans (by rw [hA]; rfl), (hb.old 49 (by decide +kernel)).trans (by rw [hA]; rfl), (hb.old 50 (by decide +kernel)).trans (by rw [hA]; rfl), rfl, rfl, rfl, rfl, rfl, rfl, rfl, (hb.old 58 (by decide +kernel)).trans (by rw [hA]; rfl), (hb.old 59 (by decide +kernel)).trans (by rw [hA]; rfl), (hb.old 60 (by decide +kernel)).trans (by rw [hA]; rfl), (hb.old 61 (by decide +kernel)).trans (by rw [hA]; rfl), (hb.old 62 (by decide +kernel)).trans (by rw [hA]; rfl), (hb.old 63 (by decide +kernel)).trans (by rw [hA]; rfl), (hb.old 64 (by decide +kernel)).trans (by rw [hA]; rfl), (hb.old 65 (by decide +kernel)).trans (by rw [hA]; rfl), trivial⟩
    rw [hfr]
    exact unhide HQ _ _ _ _ _ _ _ _ w' (hN.then hn) (hR.oth _ _ _ _ (by decide) hp) hR.fr.size
set_option maxHeartbeats 8000000 in
set_option maxRecDepth 100000 in
theorem gr14_5 {W0 W : World} {p : Nat} {n2 n3 n4 n5 : Nat} {x0 x1 : Value} {v4 : Value} {l : List UInt8} {u0 u2 u3 u5 u6 u7 u8 u9 u10 u11 u12 u13 u14 u15 u16 u17 u18 u19 u20 u21 u22 u23 u24 u25 u26 u27 u28 u29 u30 u31 u32 u33 u34 u35 u36 u37 u38 u39 u40 u41 u42 u43 u44 u45 u46 u47 u48 u49 u50 u51 u52 u53 u54 u55 u56 u57 u58 u59 u60 u61 u62 u63 u64 u65 : Value} {Q : Exit → Act → World → Prop} (hN : Nb W0 W v4 l) (hp : W.heap[p]? = some (.cells #[x0, x1, .int .u64 (n2 : Int), .int .u64 (n3 : Int), .int .u64 (n4 : Int), .int .u64 (n5 : Int)] 27 (0, 0))) (hn4 : n4 < 18446744073709551616) (hn5 : n5 < 18446744073709551616) (hl : l.length ≤ 300)
    (hQ : ∀ (y58 y59 y60 y61 y62 y63 y64 y65 : Value) (v' : Value) (W' : World), Nb W0 W' v' (((l ++ be 8 n4) ++ be 8 n5) ++ List.replicate (384 - ((l ++ be 8 n4) ++ be 8 n5).length) 0) → W'.heap[p]? = some (.cells #[x0, x1, .int .u64 (n2 : Int), .int .u64 (n3 : Int), .int .u64 (n4 : Int), .int .u64 (n5 : Int)] 27 (0, 0)) → W.heap.size ≤ W'.heap.size → Q .normal ⟨#[u0, .pointer (some ⟨p, 0, none⟩), v', .int .i64 0, v4, u5, u6, u7, u8, u9, u10, u11, u12, u13, u14, u15, u16, u17, u18, u19, u20, u21, u22, u23, u24, u25, u26, u27, u28, u29, u30, u31, u32, u33, u34, u35, u36, u37, u38, u39, u40, u41, u42, u43, u44, u45, u46, u47, u48, u49, u50, u51, u52, u53, u54, u55, u56, u57, y58, y59, y60, y61, y62, y63, y64, y65], []⟩ W') : (rgF Try.f14 5).wp Try.prog Q ⟨#[u0, .pointer (some ⟨p, 0, none⟩), u2, u3, v4, u5, u6, u7, u8, u9, u10, u11, u12, u13, u14, u15, u16, u17, u18, u19, u20, u21, u22, u23, u24, u25, u26, u27, u28, u29, u30, u31, u32, u33, u34, u35, u36, u37, u38, u39, u40, u41, u42, u43, u44, u45, u46, u47, u48, u49, u50, u51, u52, u53, u54, u55, u56, u57, u58, u59, u60, u61, u62, u63, u64, u65], []⟩ W := by
  have HQ := hide hQ
  clear hQ
  conv => arg 2; whnf
  refine wp_nm ?_
  intro a0 hA
  have s1 : a0.tmps.getD 1 undef = .pointer (some ⟨p, 0, none⟩) := by rw [hA]; rfl
  have s4 : a0.tmps.getD 4 undef = v4 := by rw [hA]; rfl
  have hsz : a0.tmps.size = 66 := by rw [hA]; rfl
  have hdf : a0.defers = [] := by rw [hA]
  refine wp_region_chainA (by kernel_rfl) (by kernel_rfl) (by decide +kernel) (by rw [hsz]; decide +kernel) (fun w w' => RY (fun b => v4.ownBlock = some b ∨ W.heap.size ≤ b) w w') (RY.of_fr (Fr.refl _ _).drew) (fun _ _ _ => RY.trans) (Tw [KV.any, KV.eq (.pointer (some ⟨p, 4, none⟩)), KV.eq (.int .u64 (n4 : Int)), KV.any, KV.eq (.pointer (some ⟨p, 5, none⟩)), KV.eq (.int .u64 (n5 : Int)), KV.any, KV.any, KV.any, KV.eq (.int .i64 0)]) (Tw.mono _) [0, 3, 6, 7, 8] (by decide) (by decide) (fun k i j h1 h2 => ?cp) (StC (fun b => v4.ownBlock = some b) W [some (4, l), some (58, l), some (61, (l ++ be 8 n4)), some (64, ((l ++ be 8 n4) ++ be 8 n5)), some (65, (((l ++ be 8 n4) ++ be 8 n5) ++ List.replicate (384 - ((l ++ be 8 n4) ++ be 8 n5).length) 0)), some (2, (((l ++ be 8 n4) ++ be 8 n5) ++ List.replicate (384 - ((l ++ be 8 n4) ++ be 8 n5).length) 0))]) ?st0 ?steps ?done
  case cp =>
    match k, h1, h2 with
    | 0, h1, h2 => simp at h1 h2; subst h1; subst h2; exact .one rfl (by kernel_rfl)
    | 1, h1, h2 => simp at h1 h2; subst h1; subst h2; exact .one rfl (by kernel_rfl)
    | 2, h1, h2 => simp at h1 h2; subst h1; subst h2; exact .one rfl (by kernel_rfl)
    | 3, h1, h2 => simp at h1 h2; subst h1; subst h2; exact .one rfl (by kernel_rfl)
    | 4, h1, h2 => simp at h2
    | k + 5, h1, h2 => simp at h2
  case st0 =>
    intro s l' e
    simp at e
    obtain ⟨rfl, rfl⟩ := e
    rw [s4]
    exact hN.nw.kept (Fr.refl _ _).drew
  case steps =>
    have HC4 : ∀ w', RY (fun b => v4.ownBlock = some b ∨ W.heap.size ≤ b) W w' → w'.cell? ⟨p, 4, none⟩ = some (.int .u64 (n4 : Int)) := fun w' f => by rw [cell_of_heap (f.oth _ _ _ _ (by decide) hp)]; rfl
    have HC5 : ∀ w', RY (fun b => v4.ownBlock = some b ∨ W.heap.size ≤ b) W w' → w'.cell? ⟨p, 5, none⟩ = some (.int .u64 (n5 : Int)) := fun w' f => by rw [cell_of_heap (f.oth _ _ _ _ (by decide) hp)]; rfl
    refine ⟨?_, ?_⟩
    · intro a' w' k hb hR hst hck hle hd
      obtain rfl : 0 = k := hck 0 rfl
      have hn := hst 4 _ rfl
      exact .inl ⟨wanted_none rfl, ch_move (by decide) (.inl rfl) rfl rfl (by rw [hb.size, hsz]; decide) rfl hn (fun _ _ => trivial)⟩
    refine ⟨?_, ?_⟩
    · intro a' w' k hb hR hst hck hle hd
      exact .inl ⟨wanted_none rfl, la_val _ _ (by decide) (x_f27_4 rfl ((hb.old 1 (by decide +kernel)).trans s1)) rfl (RY.of_fr (Fr.refl _ _)) (hst.put rfl (Fr.refl _ _))⟩
    refine ⟨?_, ?_⟩
    · intro a' w' k hb hR hst hck hle hd
      exact .inl ⟨wanted_none rfl, la_val _ _ (by decide) (x_load1 ld22 rfl (hd 1 (by kernel_rfl) 59 rfl) (HC4 w' hR)) rfl (RY.of_fr (Fr.refl _ _)) (hst.put rfl (Fr.refl _ _))⟩
    refine ⟨?_, ?_⟩
    · intro a' w' k hb hR hst hck hle hd
      obtain rfl : 1 = k := hck 1 rfl
      have hn := hst 58 _ rfl
      have e1 : a'.tmps.getD 60 undef = .int .u64 (n4 : Int) := hd 2 (by kernel_rfl) 60 rfl
      exact .inl ⟨wanted_none rfl, ch_put (by decide) rfl rfl rfl e1 rfl (.inr (.inr rfl)) (by first | omega | (simp only [List.length_append, be_length, List.length_replicate]; omega)) (by omega) rfl (by rw [hb.size, hsz]; decide) rfl hn (fun _ _ => trivial)⟩
    refine ⟨?_, ?_⟩
    · intro a' w' k hb hR hst hck hle hd
      exact .inl ⟨wanted_none rfl, la_val _ _ (by decide) (x_f27_5 rfl ((hb.old 1 (by decide +kernel)).trans s1)) rfl (RY.of_fr (Fr.refl _ _)) (hst.put rfl (Fr.refl _ _))⟩
    refine ⟨?_, ?_⟩
    · intro a' w' k hb hR hst hck hle hd
      exact .inl ⟨wanted_none rfl, la_val _ _ (by decide) (x_load1 ld22 rfl (hd 4 (by kernel_rfl) 62 rfl) (HC5 w' hR)) rfl (RY.of_fr (Fr.refl _ _)) (hst.put rfl (Fr.refl _ _))⟩
    refine ⟨?_, ?_⟩
    · intro a' w' k hb hR hst hck hle hd
      obtain rfl : 2 = k := hck 2 rfl
      have hn := hst 61 _ rfl
      have e1 : a'.tmps.getD 63 undef = .int .u64 (n5 : Int) := hd 5 (by kernel_rfl) 63 rfl
      exact .inl ⟨wanted_none rfl, ch_put (by decide) rfl rfl rfl e1 rfl (.inr (.inr rfl)) (by first | omega | (simp only [List.length_append, be_length, List.length_replicate]; omega)) (by omega) rfl (by rw [hb.size, hsz]; decide) rfl hn (fun _ _ => trivial)⟩
    refine ⟨?_, ?_⟩
    · intro a' w' k hb hR hst hck hle hd
      obtain rfl : 3 = k := hck 3 rfl
      have hn := hst 64 _ rfl
      exact .inl ⟨wanted_none rfl, ch_filled (by decide) rfl rfl rfl (by first | omega | (simp only [List.length_append, be_length, List.length_replicate]; omega)) (by first | omega | (simp only [List.length_append, be_length, List.length_replicate]; omega)) rfl (by rw [hb.size, hsz]; decide) rfl hn (fun _ _ => trivial)⟩
    refine ⟨?_, ?_⟩
    · intro a' w' k hb hR hst hck hle hd
      obtain rfl : 4 = k := hck 4 rfl
      have hn := hst 65 _ rfl
      exact .inl ⟨wanted_none rfl, ch_move (by decide) (.inr rfl) rfl rfl (by rw [hb.size, hsz]; decide) rfl hn (fun _ _ => trivial)⟩
    refine ⟨?_, ?_⟩
    · intro a' w' k hb hR hst hck hle hd
      exact .inl ⟨wanted_none rfl, la_val _ _ (by decide) (x_assign rfl rfl) rfl (RY.of_fr (Fr.refl _ _)) (hst.put rfl (Fr.refl _ _))⟩
    exact trivial
  case done =>
    intro a' w' hb hR hst hall
    have hn := hst 2 _ rfl
    have hfr := frame_eq (a := a') (vs := [u0, .pointer (some ⟨p, 0, none⟩), a'.tmps.getD 2 undef, .int .i64 0, v4, u5, u6, u7, u8, u9, u10, u11, u12, u13, u14, u15, u16, u17, u18, u19, u20, u21, u22, u23, u24, u25, u26, u27, u28, u29, u30, u31, u32, u33, u34, u35, u36, u37, u38, u39, u40, u41, u42, u43, u44, u45, u46, u47, u48, u49, u50, u51, u52, u53, u54, u55, u56, u57, a'.tmps.getD 58 undef, a'.tmps.getD 59 undef, a'.tmps.getD 60 undef, a'.tmps.getD 61 undef, a'.tmps.getD 62 undef, a'.tmps.getD 63 undef, a'.tmps.getD 64 undef, a'.tmps.getD 65 undef]) (by rw [hb.size, hsz]; rfl) (by rw [hb.defers, hdf]) ⟨(hb.old 0 (by decide +kernel)).trans (by rw [hA]; rfl), (hb.old 1 (by decide +kernel)).trans (by rw [hA]; rfl), rfl, (hall 9 (by decide) 3 rfl), (hb.old 4 (by decide +kernel)).trans (by rw [hA]; rfl), (hb.old 5 (by decide +kernel)).trans (by rw [hA]; rfl), (hb.old 6 (by decide +kernel)).trans (by rw [hA]; rfl), (hb.old 7 (by decide +kernel)).trans (by rw [hA]; rfl), (hb.old 8 (by decide +kernel)).trans (by rw [hA]; rfl), (hb.old 9 (by decide +kernel)).trans (by rw [hA]; rfl), (hb.old 10 (by decide +kernel)).trans (by rw [hA]; rfl), (hb.old 11 (by decide +kernel)).trans (by rw [hA]; rfl), (hb.old 12 (by decide +kernel)).trans (by rw [hA]; rfl), (hb.old 13 (by decide +kernel)).trans (by rw [hA]; rfl), (hb.old 14 (by decide +kernel)).trans (by rw [hA]; rfl), (hb.old 15 (by decide +kernel)).trans (by rw [hA]; rfl), (hb.old 16 (by decide +kernel)).trans (by rw [hA]; rfl), (hb.old 17 (by decide +kernel)).trans (by rw [hA]; rfl), (hb.old 18 (by decide +kernel)).trans (by rw [hA]; rfl), (hb.old 19 (by decide +kernel)).trans (by rw [hA]; rfl), (hb.old 20 (by decide +kernel)).trans (by rw [hA]; rfl), (hb.old 21 (by decide +kernel)).trans (by rw [hA]; rfl), (hb.old 22 (by decide +kernel)).trans (by rw [hA]; rfl), (hb.old 23 (by decide +kernel)).trans (by rw [hA]; rfl), (hb.old 24 (by decide +kernel)).trans (by rw [hA]; rfl), (hb.old 25 (by decide +kernel)).trans (by rw [hA]; rfl), (hb.old 26 (by decide +kernel)).trans (by rw [hA]; rfl), (hb.old 27 (by decide +kernel)).trans (by rw [hA]; rfl), (hb.old 28 (by decide +kernel)).trans (by rw [hA]; rfl), (hb.old 29 (by decide +kernel)).trans (by rw [hA]; rfl), (hb.old 30 (by decide +kernel)).trans (by rw [hA]; rfl), (hb.old 31 (by decide +kernel)).trans (by rw [hA]; rfl), (hb.old 32 (by decide +kernel)).trans (by rw [hA]; rfl), (hb.old 33 (by decide +kernel)).trans (by rw [hA]; rfl), (hb.old 34 (by decide +kernel)).trans (by rw [hA]; rfl), (hb.old 35 (by decide +kernel)).trans (by rw [hA]; rfl), (hb.old 36 (by decide +kernel)).trans (by rw [hA]; rfl), (hb.old 37 (by decide +kernel)).trans (by rw [hA]; rfl), (hb.old 38 (by decide +kernel)).trans (by rw [hA]; rfl), (hb.old 39 (by decide +kernel)).trans (by rw [hA]; rfl), (hb.old 40 (by decide +kernel)).trans (by rw [hA]; rfl), (hb.old 41 (by decide +kernel)).trans (by rw [hA]; rfl), (hb.old 42 (by decide +kernel)).trans (by rw [hA]; rfl), (hb.old 43 (by decide +kernel)).trans (by rw [hA]; rfl), (hb.old 44 (by decide +kernel)).trans (by rw [hA]; rfl), (hb.old 45 (by decide +kernel)).trans (by rw [hA]; rfl), (hb.old 46 (by decide +kernel)).trans (by rw [hA]; rfl), (hb.old 47 (by decide +kernel)).trans (by rw [hA]; rfl), (hb.old 48 (by decide +kernel)).trans (by rw [hA]; rfl), (hb.old 49 (by decide +kernel)).trans (by rw [hA]; rfl), (hb.old 50 (by decide +kernel)).trans (by rw [hA]; rfl), (hb.old 51 (by decide +kernel)).trans (by rw [hA]; rfl), (hb.old 52 (by decide +kernel)).trans (by rw [hA]; rfl), (hb.old 53 (by decide +kernel)).trans (by rw [hA]; rfl), (hb.old 54 (by decide +kernel)).trans (by rw [hA]; rfl), (hb.old 55 (by decide +kernel)).trans (by rw [hA]; rfl), (hb.old 56 (by decide +kernel)).trans (by rw [hA]; rfl), (hb.old 57 (by decide +kernel)).trans (by rw [hA]; rfl), rfl, rfl, rfl, rfl, rfl, rfl, rfl, rfl, trivial⟩
    rw [hfr]
    exact unhide HQ _ _ _ _ _ _ _ _ _ w' (hN.then hn) (hR.oth _ _ _ _ (by decide) hp) hR.fr.size
set_option maxHeartbeats 8000000 in
set_option maxRecDepth 100000 in
theorem gr12_4 {W0 W : World} {p : Nat} {n2 n3 m4 m5 q xc : Nat} {x0 x1 : Value} {xo : Option Addr} {v4 : Value} {l : List UInt8} {u0 u2 u3 u5 u6 u7 u8 u9 u10 u11 u12 u13 u14 u15 u16 u17 u18 u19 u20 u21 u22 u23 u24 u25 u26 u27 u28 u29 u30 u31 u32 u33 u34 u35 u36 u37 u38 u39 u40 u41 u42 u43 u44 u45 u46 u47 u48 u49 u50 u51 u52 u53 u54 u55 u56 u57 u58 u59 u60 u61 u62 u63 u64 u65 u66 u67 u68 u69 u70 u71 u72 u73 u74 u75 u76 u77 u78 u79 u80 u81 u82 u83 u84 u85 u86 u87 u88 u89 u90 u91 u92 u93 u94 u95 u96 u97 u98 u99 u100 u101 u102 u103 u104 u105 u106 u107 : Value} {Q : Exit → Act → World → Prop} (hN : Nb W0 W v4 l) (hp : W.heap[p]? = some (.cells #[x0, x1, .int .u64 (n2 : Int), .int .u64 (n3 : Int), .int .i64 (m4 : Int), .int .i64 (m5 : Int), .slice xo q xc] 25 (0, 0))) (hn2 : n2 < 18446744073709551616) (hn3 : n3 < 18446744073709551616) (hl : l.length ≤ 300)
    (hQ : ∀ (y80 y81 y82 y83 y84 y85 y86 : Value) (v' : Value) (W' : World), Nb W0 W' v' ((l ++ be 8 n2) ++ be 8 n3) → W'.heap[p]? = some (.cells #[x0, x1, .int .u64 (n2 : Int), .int .u64 (n3 : Int), .int .i64 (m4 : Int), .int .i64 (m5 : Int), .slice xo q xc] 25 (0, 0)) → W.heap.size ≤ W'.heap.size → Q .normal ⟨#[u0, .pointer (some ⟨p, 0, none⟩), u2, u3, v', u5, u6, u7, u8, u9, u10, u11, u12, u13, u14, u15, u16, u17, u18, u19, u20, u21, u22, u23, u24, u25, u26, u27, u28, u29, u30, u31, u32, u33, u34, u35, u36, u37, u38, u39, u40, u41, u42, u43, u44, u45, u46, u47, u48, u49, u50, u51, u52, u53, u54, u55, u56, u57, u58, u59, u60, u61, u62, u63, u64, u65, u66, u67, u68, u69, u70, u71, u72, u73, u74, u75, u76, u77, u78, u79, y80, y81, y82, y83, y84, y85, y86, u87, u88, u89, u90, u91, u92, u93, u94, u95, u96, u97, u98, u99, u100, u101, u102, u103, u104, u105, u106, u107], []⟩ W') : (rgF Try.f12 4).wp Try.prog Q ⟨#[u0, .pointer (some ⟨p, 0, none⟩), u2, u3, v4, u5, u6, u7, u8, u9, u10, u11, u12, u13, u14, u15, u16, u17, u18, u19, u20, u21, u22, u23, u24, u25, u26, u27, u28, u29, u30, u31, u32, u33, u34, u35, u36, u37, u38, u39, u40, u41, u42, u43, u44, u45, u46, u47, u48, u49, u50, u51, u52, u53, u54, u55, u56, u57, u58, u59, u60, u61, u62, u63, u64, u65, u66, u67, u68, u69, u70, u71, u72, u73, u74, u75, u76, u77, u78, u79, u80, u81, u82, u83, u84, u85, u86, u87, u88, u89, u90, u91, u92, u93, u94, u95, u96, u97, u98, u99, u100, u101, u102, u103, u104, u105, u106, u107], []⟩ W := by
  have HQ := hide hQ
  clear hQ
  conv => arg 2; whnf
  refine wp_nm ?_
  intro a0 hA
  have s1 : a0.tmps.getD 1 undef = .pointer (some ⟨p, 0, none⟩) := by rw [hA]; rfl
  have s4 : a0.tmps.getD 4 undef = v4 := by rw [hA]; rfl
  have hsz : a0.tmps.size = 108 := by rw [hA]; rfl
  have hdf : a0.defers = [] := by rw [hA]
  refine wp_region_chainA (by kernel_rfl) (by kernel_rfl) (by decide +kernel) (by rw [hsz]; decide +kernel) (fun w w' => RY (fun b => v4.ownBlock = some b ∨ W.heap.size ≤ b) w w') (RY.of_fr (Fr.refl _ _).drew) (fun _ _ _ => RY.trans) (Tw [KV.any, KV.eq (.pointer (some ⟨p, 2, none⟩)), KV.eq (.int .u64 (n2 : Int)), KV.any, KV.eq (.pointer (some ⟨p, 3, none⟩)), KV.eq (.int .u64 (n3 : Int)), KV.any, KV.any]) (Tw.mono _) [0, 3, 6, 7] (by decide) (by decide) (fun k i j h1 h2 => ?cp) (StC (fun b => v4.ownBlock = some b) W [some (4, l), some (80, l), some (83, (l ++ be 8 n2)), some (86, ((l ++ be 8 n2) ++ be 8 n3)), some (4, ((l ++ be 8 n2) ++ be 8 n3))]) ?st0 ?steps ?done
  case cp =>
    match k, h1, h2 with
    | 0, h1, h2 => simp at h1 h2; subst h1; subst h2; exact .one rfl (by kernel_rfl)
    | 1, h1, h2 => simp at h1 h2; subst h1; subst h2; exact .one rfl (by kernel_rfl)
    | 2, h1, h2 => simp at h1 h2; subst h1; subst h2; exact .one rfl (by kernel_rfl)
    | 3, h1, h2 => simp at h2
    | k + 4, h1, h2 => simp at h2
  case st0 =>
    intro s l' e
    simp at e
    obtain ⟨rfl, rfl⟩ := e
    rw [s4]
    exact hN.nw.kept (Fr.refl _ _).drew
  case steps =>
    have HC2 : ∀ w', RY (fun b => v4.ownBlock = some b ∨ W.heap.size ≤ b) W w' → w'.cell? ⟨p, 2, none⟩ = some (.int .u64 (n2 : Int)) := fun w' f => by rw [cell_of_heap (f.oth _ _ _ _ (by decide) hp)]; rfl
    have HC3 : ∀ w', RY (fun b => v4.ownBlock = some b ∨ W.heap.size ≤ b) W w' → w'.cell? ⟨p, 3, none⟩ = some (.int .u64 (n3 : Int)) := fun w' f => by rw [cell_of_heap (f.oth _ _ _ _ (by decide) hp)]; rfl
    refine ⟨?_, ?_⟩
    · intro a' w' k hb hR hst hck hle hd
      obtain rfl : 0 = k := hck 0 rfl
      have hn := hst 4 _ rfl
      exact .inl ⟨wanted_none rfl, ch_move (by decide) (.inl rfl) rfl rfl (by rw [hb.size, hsz]; decide) rfl hn (fun _ _ => trivial)⟩
    refine ⟨?_, ?_⟩
    · intro a' w' k hb hR hst hck hle hd
      exact .inl ⟨wanted_none rfl, la_val _ _ (by decide) (x_f25_2 rfl ((hb.old 1 (by decide +kernel)).trans s1)) rfl (RY.of_fr (Fr.refl _ _)) (hst.put rfl (Fr.refl _ _))⟩
    refine ⟨?_, ?_⟩
    · intro a' w' k hb hR hst hck hle hd
      exact .inl ⟨wanted_none rfl, la_val _ _ (by decide) (x_load1 ld22 rfl (hd 1 (by kernel_rfl) 81 rfl) (HC2 w' hR)) rfl (RY.of_fr (Fr.refl _ _)) (hst.put rfl (Fr.refl _ _))⟩
    refine ⟨?_, ?_⟩
    · intro a' w' k hb hR hst hck hle hd
      obtain rfl : 1 = k := hck 1 rfl
      have hn := hst 80 _ rfl
      have e1 : a'.tmps.getD 82 undef = .int .u64 (n2 : Int) := hd 2 (by kernel_rfl) 82 rfl
      exact .inl ⟨wanted_none rfl, ch_put (by decide) rfl rfl rfl e1 rfl (.inr (.inr rfl)) (by first | omega | (simp only [List.length_append, be_length, List.length_replicate]; omega)) (by omega) rfl (by rw [hb.size, hsz]; decide) rfl hn (fun _ _ => trivial)⟩
    refine ⟨?_, ?_⟩
    · intro a' w' k hb hR hst hck hle hd
      exact .inl ⟨wanted_none rfl, la_val _ _ (by decide) (x_f25_3 rfl ((hb.old 1 (by decide +kernel)).trans s1)) rfl (RY.of_fr (Fr.refl _ _)) (hst.put rfl (Fr.refl _ _))⟩
    refine ⟨?_, ?_⟩
    · intro a' w' k hb hR hst hck hle hd
      exact .inl ⟨wanted_none rfl, la_val _ _ (by decide) (x_load1 ld22 rfl (hd 4 (by kernel_rfl) 84 rfl) (HC3 w' hR)) rfl (RY.of_fr (Fr.refl _ _)) (hst.put rfl (Fr.refl _ _))⟩
    refine ⟨?_, ?_⟩
    · intro a' w' k hb hR hst hck hle hd
      obtain rfl : 2 = k := hck 2 rfl
      have hn := hst 83 _ rfl
      have e1 : a'.tmps.getD 85 undef = .int .u64 (n3 : Int) := hd 5 (by kernel_rfl) 85 rfl
      exact .inl ⟨wanted_none rfl, ch_put (by decide) rfl rfl rfl e1 rfl (.inr (.inr rfl)) (by first | omega | (simp only [List.length_append, be_length, List.length_replicate]; omega)) (by omega) rfl (by rw [hb.size, hsz]; decide) rfl hn (fun _ _ => trivial)⟩
    refine ⟨?_, ?_⟩
    · intro a' w' k hb hR hst hck hle hd
      obtain rfl : 3 = k := hck 3 rfl
      have hn := hst 86 _ rfl
      exact .inl ⟨wanted_none rfl, ch_move (by decide) (.inr rfl) rfl rfl (by rw [hb.size, hsz]; decide) rfl hn (fun _ _ => trivial)⟩
    exact trivial
  case done =>
    intro a' w' hb hR hst hall
    have hn := hst 4 _ rfl
    have hfr := frame_eq (a := a') (vs := [u0, .pointer (some ⟨p, 0, none⟩), u2, u3, a'.tmps.getD 4 undef, u5, u6, u7, u8, u9, u10, u11, u12, u13, u14, u15, u16, u17, u18, u19, u20, u21, u22, u23, u24, u25, u26, u27, u28, u29, u30, u31, u32, u33, u34, u35, u36, u37, u38, u39, u40, u41, u42, u43, u44, u45, u46, u47, u48, u49, u50, u51, u52, u53, u54, u55, u56, u57, u58, u59, u60, u61, u62, u63, u64, u65, u66, u67, u68, u69, u70, u71, u72, u73, u74, u75, u76, u77, u78, u79, a'.tmps.getD 80 undef, a'.tmps.getD 81 undef, a'.tmps.getD 82 undef, a'.tmps.getD 83 undef, a'.tmps.getD 84 undef, a'.tmps.getD 85 undef, a'.tmps.getD 86 undef, u87, u88, u89, u90, u91, u92, u93, u94, u95, u96, u97, u98, u99, u100, u101, u102, u103, u104, u105, u106, u107]) (by rw [hb.size, hsz]; rfl) (by rw [hb.defers, hdf]) ⟨(hb.old 0 (by decide +kernel)).trans (by rw [hA]; rfl), (hb.old 1 (by decide +kernel)).trans (by rw [hA]; rfl), (hb.old 2 (by decide +kernel)).trans (by rw [hA]; rfl), (hb.old 3 (by decide +kernel)).trans (by rw [hA]; rfl), rfl, (hb.old 5 (by decide +kernel)).trans (by rw [hA]; rfl), (hb.old 6 (by decide +kernel)).trans (by rw [hA]; rfl), (hb.old 7 (by decide +kernel)).trans (by rw [hA]; rfl), (hb.old 8 (by decide +kernel)).trans (by rw [hA]; rfl), (hb.old 9 (by decide +kernel)).trans (by rw [hA]; rfl), (hb.old 10 (by decide +kernel)).trans (by rw [hA]; rfl), (hb.old 11 (by decide +kernel)).trans (by rw [hA]; rfl), (hb.old 12 (by decide +kernel)).trans (by rw [hA]; rfl), (hb.old 13 (by decide +kernel)).trans (by rw [hA]; rfl), (hb.old 14 (by decide +kernel)).trans (by rw [hA]; rfl), (hb.old 15 (by decide +kernel)).trans (by rw [hA]; rfl), (hb.old 16 (by decide +kernel)).trans (by rw [hA]; rfl), (hb.old 17 (by decide +kernel)).trans (by rw [hA]; rfl), (hb.old 18 (by decide +kernel)).trans (by rw [hA]; rfl), (hb.old 19 (by decide +kernel)).trans (by rw [hA]; rfl), (hb.old 20 (by decide +kernel)).trans (by rw [hA]; rfl), (hb.old 21 (by decide +kernel)).trans (by rw [hA]; rfl), (hb.old 22 (by decide +kernel)).trans (by rw [hA]; rfl), (hb.old 23 (by decide +kernel)).trans (by rw [hA]; rfl), (hb.old 24 (by decide +kernel)).trans (by rw [hA]; rfl), (hb.old 25 (by decide +kernel)).trans (by rw [hA]; rfl), (hb.old 26 (by decide +kernel)).trans (by rw [hA]; rfl), (hb.old 27 (by decide +kernel)).trans (by rw [hA]; rfl), (hb.old 28 (by decide +kernel)).trans (by rw [hA]; rfl), (hb.old 29 (by decide +kernel)).trans (by rw [hA]; rfl), (hb.old 30 (by decide +kernel)).trans (by rw [hA]; rfl), (hb.old 31 (by decide +kernel)).trans (by rw [hA]; rfl), (hb.old 32 (by decide +kernel)).trans (by rw [hA]; rfl), (hb.old 33 (by decide +kernel)).trans (by rw [hA]; rfl), (hb.old 34 (by decide +kernel)).trans (by rw [hA]; rfl), (hb.old 35 (by decide +kernel)).trans (by rw [hA]; rfl), (hb.old 36 (by decide +kernel)).trans (by rw [hA]; rfl), (hb.old 37 (by decide +kernel)).trans (by rw [hA]; rfl), (hb.old 38 (by decide +kernel)).trans (by rw [hA]; rfl), (hb.old 39 (by decide +kernel)).trans (by rw [hA]; rfl), (hb.old 40 (by decide +kernel)).trans (by rw [hA]; rfl), (hb.old 41 (by decide +kernel)).trans (by rw [hA]; rfl), (hb.old 42 (by decide +kernel)).trans (by rw [hA]; rfl), (hb.old 43 (by decide +kernel)).trans (by rw [hA]; rfl), (hb.old 44 (by decide +kernel)).trans (by rw [hA]; rfl), (hb.old 45 (by decide +kernel)).trans (by rw [hA]; rfl), (hb.old 46 (by decide +kernel)).trans (by rw [hA]; rfl), (hb.old 47 (by decide +kernel)).trans (by rw [hA]; rfl), (hb.old 48 (by decide +kernel)).trans (by rw [hA]; rfl), (hb.old 49 (by decide +kernel)).trans (by rw [hA]; rfl), (hb.old 50 (by decide +kernel)).trans (by rw [hA]; rfl), (hb.old 51 (by decide +kernel)).trans (by rw [hA]; rfl), (hb.old 52 (by decide +kernel)).trans (by rw [hA]; rfl), (hb.old 53 (by decide +kernel)).trans (by rw [hA]; rfl), (hb.old 54 (by decide +kernel)).trans (by rw [hA]; rfl), (hb.old 55 (by decide +kernel)).trans (by rw [hA]; rfl), (hb.old 56 (by decide +kernel)).trans (by rw [hA]; rfl), (hb.old 57 (by decide +kernel)).trans (by rw [hA]; rfl), (hb.old 58 (by decide +kernel)).trans (by rw [hA]; rfl), (hb.old 59 (by decide +kernel)).trans (by rw [hA]; rfl), (hb.old 60 (by decide +kernel)).trans (by rw [hA]; rfl), (hb.old 61 (by decide +kernel)).trans (by rw [hA]; rfl), (hb.old 62 (by decide +kernel)).trans (by rw [hA]; rfl), (hb.old 63 (by decide +kernel)).trans (by rw [hA]; rfl), (hb.old 64 (by decide +kernel)).trans (by rw [hA]; rfl), (hb.old 65 (by decide +kernel)).trans (by rw [hA]; rfl), (hb.old 66 (by decide +kernel)).trans (by rw [hA]; rfl), (hb.old 67 (by decide +kernel)).trans (by rw [hA]; rfl), (hb.old 68 (by decide +kernel)).trans (by rw [hA]; rfl), (hb.old 69 (by decide +kernel)).trans (by rw [hA]; rfl), (hb.old 70 (by decide +kernel)).trans (by rw [hA]; rfl), (hb.old 71 (by decide +kernel)).trans (by rw [hA]; rfl), (hb.old 72 (by decide +kernel)).trans (by rw [hA]; rfl), (hb.old 73 (by decide +kernel)).trans (by rw [hA]; rfl), (hb.old 74 (by decide +kernel)).trans (by rw [hA]; rfl), (hb.old 75 (by decide +kernel)).trans (by rw [hA]; rfl), (hb.old 76 (by decide +kernel)).trans (by rw [hA]; rfl), (hb.old 77 (by decide +kernel)).trans (by rw [hA]; rfl), (hb.old 78 (by decide +kernel)).trans (by rw [hA]; rfl), (hb.old 79 (by decide +kernel)).trans (by rw [hA]; rfl), rfl, rfl, rfl, rfl, rfl, rfl, rfl, (hb.old 87 (by decide +kernel)).trans (by rw [hA]; rfl), (hb.old 88 (by decide +kernel)).trans (by rw [hA]; rfl), (hb.old 89 (by decide +kernel)).trans (by rw [hA]; rfl), (hb.old 90 (by decide +kernel)).trans (by rw [hA]; rfl), (hb.old 91 (by decide +kernel)).trans (by rw [hA]; rfl), (hb.old 92 (by decide +kernel)).trans (by rw [hA]; rfl), (hb.old 93 (by decide +kernel)).trans (by rw [hA]; rfl), (hb.old 94 (by decide +kernel)).trans (by rw [hA]; rfl), (hb.old 95 (by decide +kernel)).trans (by rw [hA]; rfl), (hb.old 96 (by decide +kernel)).trans (by rw [hA]; rfl), (hb.old 97 (by decide +kernel)).trans (by rw [hA]; rfl), (hb.old 98 (by decide +kernel)).trans (by rw [hA]; rfl), (hb.old 99 (by decide +kernel)).trans (by rw [hA]; rfl), (hb.old 100 (by decide +kernel)).trans (by rw [hA]; rfl), (hb.old 101 (by decide +kernel)).trans (by rw [hA]; rfl), (hb.old 102 (by decide +kernel)).trans (by rw [hA]; rfl), (hb.old 103 (by decide +kernel)).trans (by rw [hA]; rfl), (hb.old 104 (by decide +kernel)).trans (by rw [hA]; rfl), (hb.old 105 (by decide +kernel)).trans (by rw [hA]; rfl), (hb.old 106 (by decide +kernel)).trans (by rw [hA]; rfl), (hb.old 107 (by decide +kernel)).trans (by rw [hA]; rfl), trivial⟩
    rw [hfr]
    exact unhide HQ _ _ _ _ _ _ _ _ w' (hN.then hn) (hR.oth _ _ _ _ (by decide) hp) hR.fr.size
set_option maxHeartbeats 8000000 in
set_option maxRecDepth 100000 in
theorem gr12_5 {W0 W : World} {p : Nat} {n2 n3 m4 m5 q xc : Nat} {x0 x1 : Value} {xo : Option Addr} {v4 : Value} {l : List UInt8} {u0 u2 u3 u5 u6 u7 u8 u9 u10 u11 u12 u13 u14 u15 u16 u17 u18 u19 u20 u21 u22 u23 u24 u25 u26 u27 u28 u29 u30 u31 u32 u33 u34 u35 u36 u37 u38 u39 u40 u41 u42 u43 u44 u45 u46 u47 u48 u49 u50 u51 u52 u53 u54 u55 u56 u57 u58 u59 u60 u61 u62 u63 u64 u65 u66 u67 u68 u69 u70 u71 u72 u73 u74 u75 u76 u77 u78 u79 u80 u81 u82 u83 u84 u85 u86 u87 u88 u89 u90 u91 u92 u93 u94 u95 u96 u97 u98 u99 u100 u101 u102 u103 u104 u105 u106 u107 : Value} {Q : Exit → Act → World → Prop} (hN : Nb W0 W v4 l) (hp : W.heap[p]? = some (.cells #[x0, x1, .int .u64 (n2 : Int), .int .u64 (n3 : Int), .int .i64 (m4 : Int), .int .i64 (m5 : Int), .slice xo q xc] 25 (0, 0))) (hm4 : m4 < 65536) (hm5 : m5 < 65536) (hq : q < 65536) (hl : l.length ≤ 300)
    (hQ : ∀ (y87 y88 y89 y90 y91 y92 y93 y94 y95 y96 y97 y98 y99 y100 : Value) (v' : Value) (W' : World), Nb W0 W' v' (((l ++ be 2 m4) ++ be 2 m5) ++ be 2 q) → W'.heap[p]? = some (.cells #[x0, x1, .int .u64 (n2 : Int), .int .u64 (n3 : Int), .int .i64 (m4 : Int), .int .i64 (m5 : Int), .slice xo q xc] 25 (0, 0)) → W.heap.size ≤ W'.heap.size → Q .normal ⟨#[u0, .pointer (some ⟨p, 0, none⟩), u2, u3, v', u5, u6, u7, u8, u9, u10, u11, u12, u13, u14, u15, u16, u17, u18, u19, u20, u21, u22, u23, u24, u25, u26, u27, u28, u29, u30, u31, u32, u33, u34, u35, u36, u37, u38, u39, u40, u41, u42, u43, u44, u45, u46, u47, u48, u49, u50, u51, u52, u53, u54, u55, u56, u57, u58, u59, u60, u61, u62, u63, u64, u65, u66, u67, u68, u69, u70, u71, u72, u73, u74, u75, u76, u77, u78, u79, u80, u81, u82, u83, u84, u85, u86, y87, y88, y89, y90, y91, y92, y93, y94, y95, y96, y97, y98, y99, y100, u101, u102, u103, u104, u105, u106, u107], []⟩ W') : (rgF Try.f12 5).wp Try.prog Q ⟨#[u0, .pointer (some ⟨p, 0, none⟩), u2, u3, v4, u5, u6, u7, u8, u9, u10, u11, u12, u13, u14, u15, u16, u17, u18, u19, u20, u21, u22, u23, u24, u25, u26, u27, u28, u29, u30, u31, u32, u33, u34, u35, u36, u37, u38, u39, u40, u41, u42, u43, u44, u45, u46, u47, u48, u49, u50, u51, u52, u53, u54, u55, u56, u57, u58, u59, u60, u61, u62, u63, u64, u65, u66, u67, u68, u69, u70, u71, u72, u73, u74, u75, u76, u77, u78, u79, u80, u81, u82, u83, u84, u85, u86, u87, u88, u89, u90, u91, u92, u93, u94, u95, u96, u97, u98, u99, u100, u101, u102, u103, u104, u105, u106, u107], []⟩ W := by
  have HQ := hide hQ
  clear hQ
  conv => arg 2; whnf
  refine wp_nm ?_
  intro a0 hA
  have s1 : a0.tmps.getD 1 undef = .pointer (some ⟨p, 0, none⟩) := by rw [hA]; rfl
  have s4 : a0.tmps.getD 4 undef = v4 := by rw [hA]; rfl
  have hsz : a0.tmps.size = 108 := by rw [hA]; rfl
  have hdf : a0.defers = [] := by rw [hA]
  refine wp_region_chainA (by kernel_rfl) (by kernel_rfl) (by decide +kernel) (by rw [hsz]; decide +kernel) (fun w w' => RY (fun b => v4.ownBlock = some b ∨ W.heap.size ≤ b) w w') (RY.of_fr (Fr.refl _ _).drew) (fun _ _ _ => RY.trans) (Tw [KV.any, KV.eq (.pointer (some ⟨p, 4, none⟩)), KV.eq (.int .i64 (m4 : Int)), KV.eq (.int .u64 (m4 : Int)), KV.any, KV.eq (.pointer (some ⟨p, 5, none⟩)), KV.eq (.int .i64 (m5 : Int)), KV.eq (.int .u64 (m5 : Int)), KV.any, KV.eq (.pointer (some ⟨p, 6, none⟩)), KV.eq (.slice xo q xc), KV.eq (.int .i64 (q : Int)), KV.eq (.int .u64 (q : Int)), KV.any, KV.any]) (Tw.mono _) [0, 4, 8, 13, 14] (by decide) (by decide) (fun k i j h1 h2 => ?cp) (StC (fun b => v4.ownBlock = some b) W [some (4, l), some (87, l), some (91, (l ++ be 2 m4)), some (95, ((l ++ be 2 m4) ++ be 2 m5)), some (100, (((l ++ be 2 m4) ++ be 2 m5) ++ be 2 q)), some (4, (((l ++ be 2 m4) ++ be 2 m5) ++ be 2 q))]) ?st0 ?steps ?done
  case cp =>
    match k, h1, h2 with
    | 0, h1, h2 => simp at h1 h2; subst h1; subst h2; exact .one rfl (by kernel_rfl)
    | 1, h1, h2 => simp at h1 h2; subst h1; subst h2; exact .one rfl (by kernel_rfl)
    | 2, h1, h2 => simp at h1 h2; subst h1; subst h2; exact .one rfl (by kernel_rfl)
    | 3, h1, h2 => simp at h1 h2; subst h1; subst h2; exact .one rfl (by kernel_rfl)
    | 4, h1, h2 => simp at h2
    | k + 5, h1, h2 => simp at h2
  case st0 =>
    intro s l' e
    simp at e
    obtain ⟨rfl, rfl⟩ := e
    rw [s4]
    exact hN.nw.kept (Fr.refl _ _).drew
  case steps =>
    have HC4 : ∀ w', RY (fun b => v4.ownBlock = some b ∨ W.heap.size ≤ b) W w' → w'.cell? ⟨p, 4, none⟩ = some (.int .i64 (m4 : Int)) := fun w' f => by rw [cell_of_heap (f.oth _ _ _ _ (by decide) hp)]; rfl
    have HC5 : ∀ w', RY (fun b => v4.ownBlock = some b ∨ W.heap.size ≤ b) W w' → w'.cell? ⟨p, 5, none⟩ = some (.int .i64 (m5 : Int)) := fun w' f => by rw [cell_of_heap (f.oth _ _ _ _ (by decide) hp)]; rfl
    have HC6 : ∀ w', RY (fun b => v4.ownBlock = some b ∨ W.heap.size ≤ b) W w' → w'.cell? ⟨p, 6, none⟩ = some (.slice xo q xc) := fun w' f => by rw [cell_of_heap (f.oth _ _ _ _ (by decide) hp)]; rfl
    refine ⟨?_, ?_⟩
    · intro a' w' k hb hR hst hck hle hd
      obtain rfl : 0 = k := hck 0 rfl
      have hn := hst 4 _ rfl
      exact .inl ⟨wanted_none rfl, ch_move (by decide) (.inl rfl) rfl rfl (by rw [hb.size, hsz]; decide) rfl hn (fun _ _ => trivial)⟩
    refine ⟨?_, ?_⟩
    · intro a' w' k hb hR hst hck hle hd
      exact .inl ⟨wanted_none rfl, la_val _ _ (by decide) (x_f25_4 rfl ((hb.old 1 (by decide +kernel)).trans s1)) rfl (RY.of_fr (Fr.refl _ _)) (hst.put rfl (Fr.refl _ _))⟩
    refine ⟨?_, ?_⟩
    · intro a' w' k hb hR hst hck hle hd
      exact .inl ⟨wanted_none rfl, la_val _ _ (by decide) (x_load1 ld3 rfl (hd 1 (by kernel_rfl) 88 rfl) (HC4 w' hR)) rfl (RY.of_fr (Fr.refl _ _)) (hst.put rfl (Fr.refl _ _))⟩
    refine ⟨?_, ?_⟩
    · intro a' w' k hb hR hst hck hle hd
      exact .inl ⟨wanted_none rfl, la_val _ _ (by decide) (x_conv rfl (hd 2 (by kernel_rfl) 89 rfl) (cv32 _ _ (by omega))) rfl (RY.of_fr (Fr.refl _ _)) (hst.put rfl (Fr.refl _ _))⟩
    refine ⟨?_, ?_⟩
    · intro a' w' k hb hR hst hck hle hd
      obtain rfl : 1 = k := hck 1 rfl
      have hn := hst 87 _ rfl
      have e1 : a'.tmps.getD 90 undef = .int .u64 (m4 : Int) := hd 3 (by kernel_rfl) 90 rfl
      exact .inl ⟨wanted_none rfl, ch_put (by decide) rfl rfl rfl e1 rfl (.inl rfl) (by first | omega | (simp only [List.length_append, be_length, List.length_replicate]; omega)) (by omega) rfl (by rw [hb.size, hsz]; decide) rfl hn (fun _ _ => trivial)⟩
    refine ⟨?_, ?_⟩
    · intro a' w' k hb hR hst hck hle hd
      exact .inl ⟨wanted_none rfl, la_val _ _ (by decide) (x_f25_5 rfl ((hb.old 1 (by decide +kernel)).trans s1)) rfl (RY.of_fr (Fr.refl _ _)) (hst.put rfl (Fr.refl _ _))⟩
    refine ⟨?_, ?_⟩
    · intro a' w' k hb hR hst hck hle hd
      exact .inl ⟨wanted_none rfl, la_val _ _ (by decide) (x_load1 ld3 rfl (hd 5 (by kernel_rfl) 92 rfl) (HC5 w' hR)) rfl (RY.of_fr (Fr.refl _ _)) (hst.put rfl (Fr.refl _ _))⟩
    refine ⟨?_, ?_⟩
    · intro a' w' k hb hR hst hck hle hd
      exact .inl ⟨wanted_none rfl, la_val _ _ (by decide) (x_conv rfl (hd 6 (by kernel_rfl) 93 rfl) (cv32 _ _ (by omega))) rfl (RY.of_fr (Fr.refl _ _)) (hst.put rfl (Fr.refl _ _))⟩
    refine ⟨?_, ?_⟩
    · intro a' w' k hb hR hst hck hle hd
      obtain rfl : 2 = k := hck 2 rfl
      have hn := hst 91 _ rfl
      have e1 : a'.tmps.getD 94 undef = .int .u64 (m5 : Int) := hd 7 (by kernel_rfl) 94 rfl
      exact .inl ⟨wanted_none rfl, ch_put (by decide) rfl rfl rfl e1 rfl (.inl rfl) (by first | omega | (simp only [List.length_append, be_length, List.length_replicate]; omega)) (by omega) rfl (by rw [hb.size, hsz]; decide) rfl hn (fun _ _ => trivial)⟩
    refine ⟨?_, ?_⟩
    · intro a' w' k hb hR hst hck hle hd
      exact .inl ⟨wanted_none rfl, la_val _ _ (by decide) (x_f25_6 rfl ((hb.old 1 (by decide +kernel)).trans s1)) rfl (RY.of_fr (Fr.refl _ _)) (hst.put rfl (Fr.refl _ _))⟩
    refine ⟨?_, ?_⟩
    · intro a' w' k hb hR hst hck hle hd
      exact .inl ⟨wanted_none rfl, la_val _ _ (by decide) (x_load1 ld23 rfl (hd 9 (by kernel_rfl) 96 rfl) (HC6 w' hR)) rfl (RY.of_fr (Fr.refl _ _)) (hst.put rfl (Fr.refl _ _))⟩
    refine ⟨?_, ?_⟩
    · intro a' w' k hb hR hst hck hle hd
      exact .inl ⟨wanted_none rfl, la_val _ _ (by decide) (x_len23 rfl (hd 10 (by kernel_rfl) 97 rfl)) rfl (RY.of_fr (Fr.refl _ _)) (hst.put rfl (Fr.refl _ _))⟩
    refine ⟨?_, ?_⟩
    · intro a' w' k hb hR hst hck hle hd
      exact .inl ⟨wanted_none rfl, la_val _ _ (by decide) (x_conv rfl (hd 11 (by kernel_rfl) 98 rfl) (cv32 _ _ (by omega))) rfl (RY.of_fr (Fr.refl _ _)) (hst.put rfl (Fr.refl _ _))⟩
    refine ⟨?_, ?_⟩
    · intro a' w' k hb hR hst hck hle hd
      obtain rfl : 3 = k := hck 3 rfl
      have hn := hst 95 _ rfl
      have e1 : a'.tmps.getD 99 undef = .int .u64 (q : Int) := hd 12 (by kernel_rfl) 99 rfl
      exact .inl ⟨wanted_none rfl, ch_put (by decide) rfl rfl rfl e1 rfl (.inl rfl) (by first | omega | (simp only [List.length_append, be_length, List.length_replicate]; omega)) (by omega) rfl (by rw [hb.size, hsz]; decide) rfl hn (fun _ _ => trivial)⟩
    refine ⟨?_, ?_⟩
    · intro a' w' k hb hR hst hck hle hd
      obtain rfl : 4 = k := hck 4 rfl
      have hn := hst 100 _ rfl
      exact .inl ⟨wanted_none rfl, ch_move (by decide) (.inr rfl) rfl rfl (by rw [hb.size, hsz]; decide) rfl hn (fun _ _ => trivial)⟩
    exact trivial
  case done =>
    intro a' w' hb hR hst hall
    have hn := hst 4 _ rfl
    have hfr := frame_eq (a := a') (vs := [u0, .pointer (some ⟨p, 0, none⟩), u2, u3, a'.tmps.getD 4 undef, u5, u6, u7, u8, u9, u10, u11, u12, u13, u14, u15, u16, u17, u18, u19, u20, u21, u22, u23, u24, u25, u26, u27, u28, u29, u30, u31, u32, u33, u34, u35, u36, u37, u38, u39, u40, u41, u42, u43, u44, u45, u46, u47, u48, u49, u50, u51, u52, u53, u54, u55, u56, u57, u58, u59, u60, u61, u62, u63, u64, u65, u66, u67, u68, u69, u70, u71, u72, u73, u74, u75, u76, u77, u78, u79, u80, u81, u82, u83, u84, u85, u86, a'.tmps.getD 87 undef, a'.tmps.getD 88 undef, a'.tmps.getD 89 undef, a'.tmps.getD 90 undef, a'.tmps.getD 91 undef, a'.tmps.getD 92 undef, a'.tmps.getD 93 undef, a'.tmps.getD 94 undef, a'.tmps.getD 95 undef, a'.tmps.getD 96 undef, a'.tmps.getD 97 undef, a'.tmps.getD 98 undef, a'.tmps.getD 99 undef, a'.tmps.getD 100 undef, u101, u102, u103, u104, u105, u106, u107]) (by rw [hb.size, hsz]; rfl) (by rw [hb.defers, hdf]) ⟨(hb.old 0 (by decide +kernel)).trans (by rw [hA]; rfl), (hb.old 1 (by decide +kernel)).trans (by rw [hA]; rfl), (hb.old 2 (by decide +kernel)).trans (by rw [hA]; rfl), (hb.old 3 (by decide +kernel)).trans (by rw [hA]; rfl), rfl, (hb.old 5 (by decide +kernel)).trans (by rw [hA]; rfl), (hb.old 6 (by decide +kernel)).trans (by rw [hA]; rfl), (hb.old 7 (by decide +kernel)).trans (by rw [hA]; rfl), (hb.old 8 (by decide +kernel)).trans (by rw [hA]; rfl), (hb.old 9 (by decide +kernel)).trans (by rw [hA]; rfl), (hb.old 10 (by decide +kernel)).trans (by rw [hA]; rfl), (hb.old 11 (by decide +kernel)).trans (by rw [hA]; rfl), (hb.old 12 (by decide +kernel)).trans (by rw [hA]; rfl), (hb.old 13 (by decide +kernel)).trans (by rw [hA]; rfl), (hb.old 14 (by decide +kernel)).trans (by rw [hA]; rfl), (hb.old 15 (by decide +kernel)).trans (by rw [hA]; rfl), (hb.old 16 (by decide +kernel)).trans (by rw [hA]; rfl), (hb.old 17 (by decide +kernel)).trans (by rw [hA]; rfl), (hb.old 18 (by decide +kernel)).trans (by rw [hA]; rfl), (hb.old 19 (by decide +kernel)).trans (by rw [hA]; rfl), (hb.old 20 (by decide +kernel)).trans (by rw [hA]; rfl), (hb.old 21 (by decide +kernel)).trans (by rw [hA]; rfl), (hb.old 22 (by decide +kernel)).trans (by rw [hA]; rfl), (hb.old 23 (by decide +kernel)).trans (by rw [hA]; rfl), (hb.old 24 (by decide +kernel)).trans (by rw [hA]; rfl), (hb.old 25 (by decide +kernel)).trans (by rw [hA]; rfl), (hb.old 26 (by decide +kernel)).trans (by rw [hA]; rfl), (hb.old 27 (by decide +kernel)).trans (by rw [hA]; rfl), (hb.old 28 (by decide +kernel)).trans (by rw [hA]; rfl), (hb.old 29 (by decide +kernel)).trans (by rw [hA]; rfl), (hb.old 30 (by decide +kernel)).trans (by rw [hA]; rfl), (hb.old 31 (by decide +kernel)).trans (by rw [hA]; rfl), (hb.old 32 (by decide +kernel)).trans (by rw [hA]; rfl), (hb.old 33 (by decide +kernel)).trans (by rw [hA]; rfl), (hb.old 34 (by decide +kernel)).trans (by rw [hA]; rfl), (hb.old 35 (by decide +kernel)).trans (by rw [hA]; rfl), (hb.old 36 (by decide +kernel)).trans (by rw [hA]; rfl), (hb.old 37 (by decide +kernel)).trans (by rw [hA]; rfl), (hb.old 38 (by decide +kernel)).trans (by rw [hA]; rfl), (hb.old 39 (by decide +kernel)).trans (by rw [hA]; rfl), (hb.old 40 (by decide +kernel)).trans (by rw [hA]; rfl), (hb.old 41 (by decide +kernel)).trans (by rw [hA]; rfl), (hb.old 42 (by decide +kernel)).trans (by rw [hA]; rfl), (hb.old 43 (by decide +kernel)).trans (by rw [hA]; rfl), (hb.old 44 (by decide +kernel)).trans (by rw [hA]; rfl), (hb.old 45 (by decide +kernel)).trans (by rw [hA]; rfl), (hb.old 46 (by decide +kernel)).trans (by rw [hA]; rfl), (hb.old 47 (by decide +kernel)).trans (by rw [hA]; rfl), (hb.old 48 (by decide +kernel)).trans (by rw [hA]; rfl), (hb.old 49 (by decide +kernel)).trans (by rw [hA]; rfl), (hb.old 50 (by decide +kernel)).trans (by rw [hA]; rfl), (hb.old 51 (by decide +kernel)).trans (by rw [hA]; rfl), (hb.old 52 (by decide +kernel)).trans (by rw [hA]; rfl), (hb.old 53 (by decide +kernel)).trans (by rw [hA]; rfl), (hb.old 54 (by decide +kernel)).trans (by rw [hA]; rfl), (hb.old 55 (by decide +kernel)).trans (by rw [hA]; rfl), (hb.old 56 (by decide +kernel)).trans (by rw [hA]; rfl), (hb.old 57 (by decide +kernel)).trans (by rw [hA]; rfl), (hb.old 58 (by decide +kernel)).trans (by rw [hA]; rfl), (hb.old 59 (by decide +kernel)).trans (by rw [hA]; rfl), (hb.old 60 (by decide +kernel)).trans (by rw [hA]; rfl), (hb.old 61 (by decide +kernel)).trans (by rw [hA]; rfl), (hb.old 62 (by decide +kernel)).trans (by rw [hA]; rfl), (hb.old 63 (by decide +kernel)).trans (by rw [hA]; rfl), (hb.old 64 (by decide +kernel)).trans (by rw [hA]; rfl), (hb.old 65 (by decide +kernel)).trans (by rw [hA]; rfl), (hb.old 66 (by decide +kernel)).trans (by rw [hA]; rfl), (hb.old 67 (by decide +kernel)).trans (by rw [hA]; rfl), (hb.old 68 (by decide +kernel)).trans (by rw [hA]; rfl), (hb.old 69 (by decide +kernel)).trans (by rw [hA]; rfl), (hb.old 70 (by decide +kernel)).trans (by rw [hA]; rfl), (hb.old 71 (by decide +kernel)).trans (by rw [hA]; rfl), (hb.old 72 (by decide +kernel)).trans (by rw [hA]; rfl), (hb.old 73 (by decide +kernel)).trans (by rw [hA]; rfl), (hb.old 74 (by decide +kernel)).trans (by rw [hA]; rfl), (hb.old 75 (by decide +kernel)).trans (by rw [hA]; rfl), (hb.old 76 (by decide +kernel)).trans (by rw [hA]; rfl), (hb.old 77 (by decide +kernel)).trans (by rw [hA]; rfl), (hb.old 78 (by decide +kernel)).trans (by rw [hA]; rfl), (hb.old 79 (by decide +kernel)).trans (by rw [hA]; rfl), (hb.old 80 (by decide +kernel)).trans (by rw [hA]; rfl), (hb.old 81 (by decide +kernel)).trans (by rw [hA]; rfl), (hb.old 82 (by decide +kernel)).trans (by rw [hA]; rfl), (hb.old 83 (by decide +kernel)).trans (by rw [hA]; rfl), (hb.old 84 (by decide +kernel)).trans (by rw [hA]; rfl), (hb.old 85 (by decide +kernel)).trans (by rw [hA]; rfl), (hb.old 86 (by decide +kernel)).trans (by rw [hA]; rfl), rfl, rfl, rfl, rfl, rfl, rfl, rfl, rfl, rfl, rfl, rfl, rfl, rfl, rfl, (hb.old 101 (by decide +kernel)).trans (by rw [hA]; rfl), (hb.old 102 (by decide +kernel)).trans (by rw [hA]; rfl), (hb.old 103 (by decide +kernel)).trans (by rw [hA]; rfl), (hb.old 104 (by decide +kernel)).trans (by rw [hA]; rfl), (hb.old 105 (by decide +kernel)).trans (by rw [hA]; rfl), (hb.old 106 (by decide +kernel)).trans (by rw [hA]; rfl), (hb.old 107 (by decide +kernel)).trans (by rw [hA]; rfl), trivial⟩
    rw [hfr]
    exact unhide HQ _ _ _ _ _ _ _ _ _ _ _ _ _ _ _ w' (hN.then hn) (hR.oth _ _ _ _ (by decide) hp) hR.fr.size
set_option maxHeartbeats 8000000 in
set_option maxRecDepth 100000 in
theorem gr12_6 {W0 W : World} {p : Nat} {n2 n3 m4 m5 q xc : Nat} {x0 x1 : Value} {xo : Option Addr} {bs : List UInt8} {v4 : Value} {l : List UInt8} {u0 u2 u3 u5 u6 u7 u8 u9 u10 u11 u12 u13 u14 u15 u16 u17 u18 u19 u20 u21 u22 u23 u24 u25 u26 u27 u28 u29 u30 u31 u32 u33 u34 u35 u36 u37 u38 u39 u40 u41 u42 u43 u44 u45 u46 u47 u48 u49 u50 u51 u52 u53 u54 u55 u56 u57 u58 u59 u60 u61 u62 u63 u64 u65 u66 u67 u68 u69 u70 u71 u72 u73 u74 u75 u76 u77 u78 u79 u80 u81 u82 u83 u84 u85 u86 u87 u88 u89 u90 u91 u92 u93 u94 u95 u96 u97 u98 u99 u100 u101 u102 u103 u104 u105 u106 u107 : Value} {Q : Exit → Act → World → Prop} (hN : Nb W0 W v4 l) (hp : W.heap[p]? = some (.cells #[x0, x1, .int .u64 (n2 : Int), .int .u64 (n3 : Int), .int .i64 (m4 : Int), .int .i64 (m5 : Int), .slice xo q xc] 25 (0, 0))) (hx0 : Rd W (.slice xo q xc) bs) (hxo : ∀ b, (Value.slice xo q xc).ownBlock = some b → b < W0.heap.size) (hl0 : 0 < l.length) (hl : l.length ≤ 300) (hbs : bs.length ≤ 1000)
    (hQ : ∀ (y101 y102 y103 y104 y105 : Value) (v' : Value) (W' : World), Nb W0 W' v' ((l ++ List.replicate 6 0) ++ bs) → W'.heap[p]? = some (.cells #[x0, x1, .int .u64 (n2 : Int), .int .u64 (n3 : Int), .int .i64 (m4 : Int), .int .i64 (m5 : Int), .slice xo q xc] 25 (0, 0)) → W.heap.size ≤ W'.heap.size → Q .normal ⟨#[u0, .pointer (some ⟨p, 0, none⟩), u2, u3, v', u5, u6, u7, u8, u9, u10, u11, u12, u13, u14, u15, u16, u17, u18, u19, u20, u21, u22, u23, u24, u25, u26, u27, u28, u29, u30, u31, u32, u33, u34, u35, u36, u37, u38, u39, u40, u41, u42, u43, u44, u45, u46, u47, u48, u49, u50, u51, u52, u53, u54, u55, u56, u57, u58, u59, u60, u61, u62, u63, u64, u65, u66, u67, u68, u69, u70, u71, u72, u73, u74, u75, u76, u77, u78, u79, u80, u81, u82, u83, u84, u85, u86, u87, u88, u89, u90, u91, u92, u93, u94, u95, u96, u97, u98, u99, u100, y101, y102, y103, y104, y105, u106, u107], []⟩ W') : (rgF Try.f12 6).wp Try.prog Q ⟨#[u0, .pointer (some ⟨p, 0, none⟩), u2, u3, v4, u5, u6, u7, u8, u9, u10, u11, u12, u13, u14, u15, u16, u17, u18, u19, u20, u21, u22, u23, u24, u25, u26, u27, u28, u29, u30, u31, u32, u33, u34, u35, u36, u37, u38, u39, u40, u41, u42, u43, u44, u45, u46, u47, u48, u49, u50, u51, u52, u53, u54, u55, u56, u57, u58, u59, u60, u61, u62, u63, u64, u65, u66, u67, u68, u69, u70, u71, u72, u73, u74, u75, u76, u77, u78, u79, u80, u81, u82, u83, u84, u85, u86, u87, u88, u89, u90, u91, u92, u93, u94, u95, u96, u97, u98, u99, u100, u101, u102, u103, u104, u105, u106, u107], []⟩ W := by
  have HQ := hide hQ
  clear hQ
  conv => arg 2; whnf
  refine wp_nm ?_
  intro a0 hA
  have s1 : a0.tmps.getD 1 undef = .pointer (some ⟨p, 0, none⟩) := by rw [hA]; rfl
  have s4 : a0.tmps.getD 4 undef = v4 := by rw [hA]; rfl
  have hsz : a0.tmps.size = 108 := by rw [hA]; rfl
  have hdf : a0.defers = [] := by rw [hA]
  refine wp_region_chainA (by kernel_rfl) (by kernel_rfl) (by decide +kernel) (by rw [hsz]; decide +kernel) (fun w w' => RY (fun b => v4.ownBlock = some b ∨ W.heap.size ≤ b) w w') (RY.of_fr (Fr.refl _ _).drew) (fun _ _ _ => RY.trans) (Tw [KV.any, KV.any, KV.eq (.pointer (some ⟨p, 6, none⟩)), KV.eq (.slice xo q xc), KV.any, KV.any]) (Tw.mono _) [0, 1, 4, 5] (by decide) (by decide) (fun k i j h1 h2 => ?cp) (StC (fun b => v4.ownBlock = some b) W [some (4, l), some (101, l), some (102, (l ++ List.replicate 6 0)), some (105, ((l ++ List.replicate 6 0) ++ bs)), some (4, ((l ++ List.replicate 6 0) ++ bs))]) ?st0 ?steps ?done
  case cp =>
    match k, h1, h2 with
    | 0, h1, h2 => simp at h1 h2; subst h1; subst h2; exact .one rfl (by kernel_rfl)
    | 1, h1, h2 => simp at h1 h2; subst h1; subst h2; exact .one rfl (by kernel_rfl)
    | 2, h1, h2 => simp at h1 h2; subst h1; subst h2; exact .one rfl (by kernel_rfl)
    | 3, h1, h2 => simp at h2
    | k + 4, h1, h2 => simp at h2
  case st0 =>
    intro s l' e
    simp at e
    obtain ⟨rfl, rfl⟩ := e
    rw [s4]
    exact hN.nw.kept (Fr.refl _ _).drew
  case steps =>
    have HC6 : ∀ w', RY (fun b => v4.ownBlock = some b ∨ W.heap.size ≤ b) W w' → w'.cell? ⟨p, 6, none⟩ = some (.slice xo q xc) := fun w' f => by rw [cell_of_heap (f.oth _ _ _ _ (by decide) hp)]; rfl
    have HX : ∀ w', RY (fun b => v4.ownBlock = some b ∨ W.heap.size ≤ b) W w' → Rd w' (.slice xo q xc) bs := fun w' f => hx0.kept f.fr (fun b e h => by
      have h1 := hxo b e
      have h2 := hN.fr.size
      rcases h with h | h
      · have := hN.new b h; omega
      · omega)
    refine ⟨?_, ?_⟩
    · intro a' w' k hb hR hst hck hle hd
      obtain rfl : 0 = k := hck 0 rfl
      have hn := hst 4 _ rfl
      exact .inl ⟨wanted_none rfl, ch_move (by decide) (.inl rfl) rfl rfl (by rw [hb.size, hsz]; decide) rfl hn (fun _ _ => trivial)⟩
    refine ⟨?_, ?_⟩
    · intro a' w' k hb hR hst hck hle hd
      obtain rfl : 1 = k := hck 1 rfl
      have hn := hst 101 _ rfl
      exact .inl ⟨wanted_none rfl, ch_zeros (q := 6) (by decide) rfl rfl rfl rfl (by first | omega | (simp only [List.length_append, be_length, List.length_replicate]; omega)) (by first | omega | (simp only [List.length_append, be_length, List.length_replicate]; omega)) rfl (by rw [hb.size, hsz]; decide) rfl hn (fun _ _ => trivial)⟩
    refine ⟨?_, ?_⟩
    · intro a' w' k hb hR hst hck hle hd
      exact .inl ⟨wanted_none rfl, la_val _ _ (by decide) (x_f25_6 rfl ((hb.old 1 (by decide +kernel)).trans s1)) rfl (RY.of_fr (Fr.refl _ _)) (hst.put rfl (Fr.refl _ _))⟩
    refine ⟨?_, ?_⟩
    · intro a' w' k hb hR hst hck hle hd
      exact .inl ⟨wanted_none rfl, la_val _ _ (by decide) (x_load1 ld23 rfl (hd 2 (by kernel_rfl) 103 rfl) (HC6 w' hR)) rfl (RY.of_fr (Fr.refl _ _)) (hst.put rfl (Fr.refl _ _))⟩
    refine ⟨?_, ?_⟩
    · intro a' w' k hb hR hst hck hle hd
      obtain rfl : 2 = k := hck 2 rfl
      have hn := hst 102 _ rfl
      have e1 : a'.tmps.getD 104 undef = .slice xo q xc := hd 3 (by kernel_rfl) 104 rfl
      exact .inl ⟨wanted_none rfl, ch_app (by decide) rfl rfl rfl e1 (HX w' hR) (by first | omega | (simp only [List.length_append, be_length, List.length_replicate]; omega)) rfl (by rw [hb.size, hsz]; decide) rfl hn (fun _ _ => trivial)⟩
    refine ⟨?_, ?_⟩
    · intro a' w' k hb hR hst hck hle hd
      obtain rfl : 3 = k := hck 3 rfl
      have hn := hst 105 _ rfl
      exact .inl ⟨wanted_none rfl, ch_move (by decide) (.inr rfl) rfl rfl (by rw [hb.size, hsz]; decide) rfl hn (fun _ _ => trivial)⟩
    exact trivial
  case done =>
    intro a' w' hb hR hst hall
    have hn := hst 4 _ rfl
    have hfr := frame_eq (a := a') (vs := [u0, .pointer (some ⟨p, 0, none⟩), u2, u3, a'.tmps.getD 4 undef, u5, u6, u7, u8, u9, u10, u11, u12, u13, u14, u15, u16, u17, u18, u19, u20, u21, u22, u23, u24, u25, u26, u27, u28, u29, u30, u31, u32, u33, u34, u35, u36, u37, u38, u39, u40, u41, u42, u43, u44, u45, u46, u47, u48, u49, u50, u51, u52, u53, u54, u55, u56, u57, u58, u59, u60, u61, u62, u63, u64, u65, u66, u67, u68, u69, u70, u71, u72, u73, u74, u75, u76, u77, u78, u79, u80, u81, u82, u83, u84, u85, u86, u87, u88, u89, u90, u91, u92, u93, u94, u95, u96, u97, u98, u99, u100, a'.tmps.getD 101 undef, a'.tmps.getD 102 undef, a'.tmps.getD 103 undef, a'.tmps.getD 104 undef, a'.tmps.getD 105 undef, u106, u107]) (by rw [hb.size, hsz]; rfl) (by rw [hb.defers, hdf]) ⟨(hb.old 0 (by decide +kernel)).trans (by rw [hA]; rfl), (hb.old 1 (by decide +kernel)).trans (by rw [hA]; rfl), (hb.old 2 (by decide +kernel)).trans (by rw [hA]; rfl), (hb.old 3 (by decide +kernel)).trans (by rw [hA]; rfl), rfl, (hb.old 5 (by decide +kernel)).trans (by rw [hA]; rfl), (hb.old 6 (by decide +kernel)).trans (by rw [hA]; rfl), (hb.old 7 (by decide +kernel)).trans (by rw [hA]; rfl), (hb.old 8 (by decide +kernel)).trans (by rw [hA]; rfl), (hb.old 9 (by decide +kernel)).trans (by rw [hA]; rfl), (hb.old 10 (by decide +kernel)).trans (by rw [hA]; rfl), (hb.old 11 (by decide +kernel)).trans (by rw [hA]; rfl), (hb.old 12 (by decide +kernel)).trans (by rw [hA]; rfl), (hb.old 13 (by decide +kernel)).trans (by rw [hA]; rfl), (hb.old 14 (by decide +kernel)).trans (by rw [hA]; rfl), (hb.old 15 (by decide +kernel)).trans (by rw [hA]; rfl), (hb.old 16 (by decide +kernel)).trans (by rw [hA]; rfl), (hb.old 17 (by decide +kernel)).trans (by rw [hA]; rfl), (hb.old 18 (by decide +kernel)).trans (by rw [hA]; rfl), (hb.old 19 (by decide +kernel)).trans (by rw [hA]; rfl), (hb.old 20 (by decide +kernel)).trans (by rw [hA]; rfl), (hb.old 21 (by decide +kernel)).trans (by rw [hA]; rfl), (hb.old 22 (by decide +kernel)).trans (by rw [hA]; rfl), (hb.old 23 (by decide +kernel)).trans (by rw [hA]; rfl), (hb.old 24 (by decide +kernel)).trans (by rw [hA]; rfl), (hb.old 25 (by decide +kernel)).trans (by rw [hA]; rfl), (hb.old 26 (by decide +kernel)).trans (by rw [hA]; rfl), (hb.old 27 (by decide +kernel)).trans (by rw [hA]; rfl), (hb.old 28 (by decide +kernel)).trans (by rw [hA]; rfl), (hb.old 29 (by decide +kernel)).trans (by rw [hA]; rfl), (hb.old 30 (by decide +kernel)).trans (by rw [hA]; rfl), (hb.old 31 (by decide +kernel)).trans (by rw [hA]; rfl), (hb.old 32 (by decide +kernel)).trans (by rw [hA]; rfl), (hb.old 33 (by decide +kernel)).trans (by rw [hA]; rfl), (hb.old 34 (by decide +kernel)).trans (by rw [hA]; rfl), (hb.old 35 (by decide +kernel)).trans (by rw [hA]; rfl), (hb.old 36 (by decide +kernel)).trans (by rw [hA]; rfl), (hb.old 37 (by decide +kernel)).trans (by rw [hA]; rfl), (hb.old 38 (by decide +kernel)).trans (by rw [hA]; rfl), (hb.old 39 (by decide +kernel)).trans (by rw [hA]; rfl), (hb.old 40 (by decide +kernel)).trans (by rw [hA]; rfl), (hb.old 41 (by decide +kernel)).trans (by rw [hA]; rfl), (hb.old 42 (by decide +kernel)).trans (by rw [hA]; rfl), (hb.old 43 (by decide +kernel)).trans (by rw [hA]; rfl), (hb.old 44 (by decide +kernel)).trans (by rw [hA]; rfl), (hb.old 45 (by decide +kernel)).trans (by rw [hA]; rfl), (hb.old 46 (by decide +kernel)).trans (by rw [hA]; rfl), (hb.old 47 (by decide +kernel)).trans (by rw [hA]; rfl), (hb.old 48 (by decide +kernel)).trans (by rw [hA]; rfl), (hb.old 49 (by decide +kernel)).trans (by rw [hA]; rfl), (hb.old 50 (by decide +kernel)).trans (by rw [hA]; rfl), (hb.old 51 (by decide +kernel)).trans (by rw [hA]; rfl), (hb.old 52 (by decide +kernel)).trans (by rw [hA]; rfl), (hb.old 53 (by decide +kernel)).trans (by rw [hA]; rfl), (hb.old 54 (by decide +kernel)).trans (by rw [hA]; rfl), (hb.old 55 (by decide +kernel)).trans (by rw [hA]; rfl), (hb.old 56 (by decide +kernel)).trans (by rw [hA]; rfl), (hb.old 57 (by decide +kernel)).trans (by rw [hA]; rfl), (hb.old 58 (by decide +kernel)).trans (by rw [hA]; rfl), (hb.old 59 (by decide +kernel)).trans (by rw [hA]; rfl), (hb.old 60 (by decide +kernel)).trans (by rw [hA]; rfl), (hb.old 61 (by decide +kernel)).trans (by rw [hA]; rfl), (hb.old 62 (by decide +kernel)).trans (by rw [hA]; rfl), (hb.old 63 (by decide +kernel)).trans (by rw [hA]; rfl), (hb.old 64 (by decide +kernel)).trans (by rw [hA]; rfl), (hb.old 65 (by decide +kernel)).trans (by rw [hA]; rfl), (hb.old 66 (by decide +kernel)).trans (by rw [hA]; rfl), (hb.old 67 (by decide +kernel)).trans (by rw [hA]; rfl), (hb.old 68 (by decide +kernel)).trans (by rw [hA]; rfl), (hb.old 69 (by decide +kernel)).trans (by rw [hA]; rfl), (hb.old 70 (by decide +kernel)).trans (by rw [hA]; rfl), (hb.old 71 (by decide +kernel)).trans (by rw [hA]; rfl), (hb.old 72 (by decide +kernel)).trans (by rw [hA]; rfl), (hb.old 73 (by decide +kernel)).trans (by rw [hA]; rfl), (hb.old 74 (by decide +kernel)).trans (by rw [hA]; rfl), (hb.old 75 (by decide +kernel)).trans (by rw [hA]; rfl), (hb.old 76 (by decide +kernel)).trans (by rw [hA]; rfl), (hb.old 77 (by decide +kernel)).trans (by rw [hA]; rfl), (hb.old 78 (by decide +kernel)).trans (by rw [hA]; rfl), (hb.old 79 (by decide +kernel)).trans (by rw [hA]; rfl), (hb.old 80 (by decide +kernel)).trans (by rw [hA]; rfl), (hb.old 81 (by decide +kernel)).trans (by rw [hA]; rfl), (hb.old 82 (by decide +kernel)).trans (by rw [hA]; rfl), (hb.old 83 (by decide +kernel)).trans (by rw [hA]; rfl), (hb.old 84 (by decide +kernel)).trans (by rw [hA]; rfl), (hb.old 85 (by decide +kernel)).trans (by rw [hA]; rfl), (hb.old 86 (by decide +kernel)).trans (by rw [hA]; rfl), (hb.old 87 (by decide +kernel)).trans (by rw [hA]; rfl), (hb.old 88 (by decide +kernel)).trans (by rw [hA]; rfl), (hb.old 89 (by decide +kernel)).trans (by rw [hA]; rfl), (hb.old 90 (by decide +kernel)).trans (by rw [hA]; rfl), (hb.old 91 (by decide +kernel)).trans (by rw [hA]; rfl), (hb.old 92 (by decide +kernel)).trans (by rw [hA]; rfl), (hb.old 93 (by decide +kernel)).trans (by rw [hA]; rfl), (hb.old 94 (by decide +kernel)).trans (by rw [hA]; rfl), (hb.old 95 (by decide +kernel)).trans (by rw [hA]; rfl), (hb.old 96 (by decide +kernel)).trans (by rw [hA]; rfl), (hb.old 97 (by decide +kernel)).trans (by rw [hA]; rfl), (hb.old 98 (by decide +kernel)).trans (by rw [hA]; rfl), (hb.old 99 (by decide +kernel)).trans (by rw [hA]; rfl), (hb.old 100 (by decide +kernel)).trans (by rw [hA]; rfl), rfl, rfl, rfl, rfl, rfl, (hb.old 106 (by decide +kernel)).trans (by rw [hA]; rfl), (hb.old 107 (by decide +kernel)).trans (by rw [hA]; rfl), trivial⟩
    rw [hfr]
    exact unhide HQ _ _ _ _ _ _ w' (hN.then hn) (hR.oth _ _ _ _ (by decide) hp) hR.fr.size
end Go.Proofs.Ytgodlfoidjeekaa

namespace Go.Proofs.Ytgodlfoidjeekaa
set_option linter.unusedVariables false
set_option linter.unusedSimpArgs false
open Go.RowKit Go.Lib
set_option linter.unusedVariables false
set_option linter.unusedSimpArgs false

attribute [local go_sem ↓] Go.wp_at_zero Go.wp_at_succ

theorem Nb.from {w W W' : World} {v : Value} {l : List UInt8} (h : Nb W W' v l) (f : Fr (fun _ => False) w W) : Nb w W' v l :=
  ⟨h.own, f.trans h.fr (fun _ _ e => e), fun k e => Nat.le_trans f.size (h.new k e)⟩
set_option maxHeartbeats 8000000 in
set_option maxRecDepth 100000 in
theorem rputSuper_no (w : World) (g b p l x y : Nat) (h : sbB g b p l x y = false) : Calls Try.prog 14 #[.agg #[.int .u64 (g : Int), .int .u64 (b : Int), .int .u64 (p : Int), .int .u64 (l : Int), .int .u64 (x : Int), .int .u64 (y : Int)]] w fun e w' => e = .returned (.tuple #[.slice none 0 0, .int .i64 81]) ∧ Fr (fun _ => False) w w' := by
  have HS := hide h
  clear h
  by_cases c0 : g = 0
  · have d0 : (((g : Nat) : Int) == 0) = true := by simp; omega
    clear c0
    go_enter Try.func14, Try.ntmps14
    go_wp2_with fail
    go_ret2
    exact ⟨rfl, by repeat' (first | exact Fr.refl _ _ | apply Fr.alloc)⟩
  have d0 : (((g : Nat) : Int) == 0) = false := by simp; omega
  by_cases c1 : b = 0
  · have d1 : (((b : Nat) : Int) == 0) = true := by simp; omega
    clear c1
    go_enter Try.func14, Try.ntmps14
    go_wp2_with fail
    go_ret2
    exact ⟨rfl, by repeat' (first | exact Fr.refl _ _ | apply Fr.alloc)⟩
  have d1 : (((b : Nat) : Int) == 0) = false := by simp; omega
  by_cases c2 : 4611686018427387904 < g
  · have d2 : (4611686018427387904 : Int) < ((g : Nat) : Int) := by omega
    clear c2
    go_enter Try.func14, Try.ntmps14
    go_wp2_with fail
    go_ret2
    exact ⟨rfl, by repeat' (first | exact Fr.refl _ _ | apply Fr.alloc)⟩
  have d2 : ¬ ((4611686018427387904 : Int) < ((g : Nat) : Int)) := by omega
  by_cases c3 : 4611686018427387904 < b
  · have d3 : (4611686018427387904 : Int) < ((b : Nat) : Int) := by omega
    clear c3
    go_enter Try.func14, Try.ntmps14
    go_wp2_with fail
    go_ret2
    exact ⟨rfl, by repeat' (first | exact Fr.refl _ _ | apply Fr.alloc)⟩
  have d3 : ¬ ((4611686018427387904 : Int) < ((b : Nat) : Int)) := by omega
  by_cases c4 : 4611686018427387904 < p
  · have d4 : (4611686018427387904 : Int) < ((p : Nat) : Int) := by omega
    clear c4
    go_enter Try.func14, Try.ntmps14
    go_wp2_with fail
    go_ret2
    exact ⟨rfl, by repeat' (first | exact Fr.refl _ _ | apply Fr.alloc)⟩
  have d4 : ¬ ((4611686018427387904 : Int) < ((p : Nat) : Int)) := by omega
  by_cases c5 : 4611686018427387904 < l
  · have d5 : (4611686018427387904 : Int) < ((l : Nat) : Int) := by omega
    clear c5
    go_enter Try.func14, Try.ntmps14
    go_wp2_with fail
    go_ret2
    exact ⟨rfl, by repeat' (first | exact Fr.refl _ _ | apply Fr.alloc)⟩
  have d5 : ¬ ((4611686018427387904 : Int) < ((l : Nat) : Int)) := by omega
  by_cases c6 : 4611686018427387904 < x
  · have d6 : (4611686018427387904 : Int) < ((x : Nat) : Int) := by omega
    clear c6
    go_enter Try.func14, Try.ntmps14
    go_wp2_with fail
    go_ret2
    exact ⟨rfl, by repeat' (first | exact Fr.refl _ _ | apply Fr.alloc)⟩
  have d6 : ¬ ((4611686018427387904 : Int) < ((x : Nat) : Int)) := by omega
  by_cases c7 : 4611686018427387904 < y
  · have d7 : (4611686018427387904 : Int) < ((y : Nat) : Int) := by omega
    clear c7
    go_enter Try.func14, Try.ntmps14
    go_wp2_with fail
    go_ret2
    exact ⟨rfl, by repeat' (first | exact Fr.refl _ _ | apply Fr.alloc)⟩
  have d7 : ¬ ((4611686018427387904 : Int) < ((y : Nat) : Int)) := by omega
  exfalso
  have h1 := unhide HS
  unfold sbB wiB at h1
  simp at h1
  omega
set_option maxHeartbeats 8000000 in
set_option maxRecDepth 100000 in
theorem rputSuper_ok (w : World) (g b p l x y : Nat) (h : sbB g b p l x y = true) : Calls Try.prog 14 #[.agg #[.int .u64 (g : Int), .int .u64 (b : Int), .int .u64 (p : Int), .int .u64 (l : Int), .int .u64 (x : Int), .int .u64 (y : Int)]] w fun e w' => ∃ v', e = .returned (.tuple #[v', .int .i64 0]) ∧ Nb w w' v' (suB g b p l x y) := by
  have hh : 0 < g ∧ 0 < b ∧ g ≤ 4611686018427387904 ∧ b ≤ 4611686018427387904 ∧ p ≤ 4611686018427387904 ∧ l ≤ 4611686018427387904 ∧ x ≤ 4611686018427387904 ∧ y ≤ 4611686018427387904 := by
    unfold sbB wiB at h
    simp at h
    omega
  obtain ⟨h1, h2, kg, kb, kp, kl, kx, ky⟩ := hh
  have d0 : (((g : Nat) : Int) == 0) = false := by simp; omega
  have d1 : (((b : Nat) : Int) == 0) = false := by simp; omega
  have d2 : ¬ ((4611686018427387904 : Int) < ((g : Nat) : Int)) := by omega
  have d3 : ¬ ((4611686018427387904 : Int) < ((b : Nat) : Int)) := by omega
  have d4 : ¬ ((4611686018427387904 : Int) < ((p : Nat) : Int)) := by omega
  have d5 : ¬ ((4611686018427387904 : Int) < ((l : Nat) : Int)) := by omega
  have d6 : ¬ ((4611686018427387904 : Int) < ((x : Nat) : Int)) := by omega
  have d7 : ¬ ((4611686018427387904 : Int) < ((y : Nat) : Int)) := by omega
  have Hg := hide (show g < 18446744073709551616 by omega)
  have Hb := hide (show b < 18446744073709551616 by omega)
  have Hp := hide (show p < 18446744073709551616 by omega)
  have Hl := hide (show l < 18446744073709551616 by omega)
  have Hx := hide (show x < 18446744073709551616 by omega)
  have Hy := hide (show y < 18446744073709551616 by omega)
  clear h h1 h2 kg kb kp kl kx ky
  have F0 := hide ((Fr.refl (fun _ => False) w).alloc (.cells #[.int .u64 (g : Int), .int .u64 (b : Int), .int .u64 (p : Int), .int .u64 (l : Int), .int .u64 (x : Int), .int .u64 (y : Int)] 27))
  have hp := heap_alloc_new w (.cells #[.int .u64 (g : Int), .int .u64 (b : Int), .int .u64 (p : Int), .int .u64 (l : Int), .int .u64 (x : Int), .int .u64 (y : Int)] 27)
  have HP := hide hp
  clear hp
  go_enter Try.func14, Try.ntmps14
  go_upto_region 3 with fail
  refine gr14 (unhide HP) (unhide Hg) (unhide Hb) ?_
  intro y1 y2 y3 y4 y5 y6 y7 y8 v1 W1 hN1
  have HN1 := hide hN1
  have HP1 := hide ((hN1.fr.block _ (lt_of_heap (unhide HP)) id).trans (unhide HP))
  clear hN1
  go_upto_region 4 with fail
  refine gr14_4 (unhide HN1) (unhide HP1) (unhide Hp) (unhide Hl) (by simp [be_length]) ?_
  intro z1 z2 z3 z4 z5 z6 z7 v2 W2 hN2 hp2 _
  have HN2 := hide hN2
  have HP2 := hide hp2
  clear hN2 hp2
  go_upto_region 5 with fail
  refine gr14_5 (unhide HN2) (unhide HP2) (unhide Hx) (unhide Hy) (by simp [be_length]) ?_
  intro q1 q2 q3 q4 q5 q6 q7 q8 v3 W3 hN3 hp3 _
  have hl : ([74, 83, 85, 80] ++ be 8 g ++ be 8 b ++ be 8 p ++ be 8 l ++ be 8 x ++ be 8 y : List UInt8).length = 52 := by simp [be_length]
  have hsu : ([74, 83, 85, 80] ++ be 8 g ++ be 8 b ++ be 8 p ++ be 8 l ++ be 8 x ++ be 8 y : List UInt8) ++ List.replicate 332 0 = suB g b p l x y := by
    unfold suB lay
    simp
  rw [hl] at hN3
  have HN3 := hide (hsu ▸ hN3)
  clear hN3 hp3 hl hsu
  go_wp2_with fail
  go_ret2
  exact ⟨_, rfl, (unhide HN3).from (unhide F0)⟩
end Go.Proofs.Ytgodlfoidjeekaa

namespace Go.Proofs.Ytgodlfoidjeekaa
set_option linter.unusedVariables false
set_option linter.unusedSimpArgs false
open Go.RowKit Go.Lib
set_option linter.unusedVariables false
set_option linter.unusedSimpArgs false

attribute [local go_sem ↓] Go.wp_at_zero Go.wp_at_succ

set_option maxHeartbeats 8000000 in
set_option maxRecDepth 100000 in
theorem rputEntry_no (w : World) (b s p l : Nat) (pt ps : Int) (ao : Option Addr) (n cap : Nat) (h : cbB b s p l pt ps n = false) : Calls Try.prog 12 #[.agg #[.int .u64 (b : Int), .int .u64 (s : Int), .int .u64 (p : Int), .int .u64 (l : Int), .int .i64 pt, .int .i64 ps, .slice ao n cap]] w fun e w' => e = .returned (.tuple #[.slice none 0 0, .int .i64 81]) ∧ Fr (fun _ => False) w w' := by
  have HS := hide h
  clear h
  by_cases c0 : b = 0
  · have d0 : (((b : Nat) : Int) == 0) = true := by simp; omega
    clear c0
    go_enter Try.func12, Try.ntmps12
    go_wp2_with fail
    go_ret2
    exact ⟨rfl, by repeat' (first | exact Fr.refl _ _ | apply Fr.alloc)⟩
  have d0 : (((b : Nat) : Int) == 0) = false := by simp; omega
  by_cases c1 : s = 0
  · have d1 : (((s : Nat) : Int) == 0) = true := by simp; omega
    clear c1
    go_enter Try.func12, Try.ntmps12
    go_wp2_with fail
    go_ret2
    exact ⟨rfl, by repeat' (first | exact Fr.refl _ _ | apply Fr.alloc)⟩
  have d1 : (((s : Nat) : Int) == 0) = false := by simp; omega
  by_cases c2 : l = 0
  · have d2 : (((l : Nat) : Int) == 0) = true := by simp; omega
    clear c2
    go_enter Try.func12, Try.ntmps12
    go_wp2_with fail
    go_ret2
    exact ⟨rfl, by repeat' (first | exact Fr.refl _ _ | apply Fr.alloc)⟩
  have d2 : (((l : Nat) : Int) == 0) = false := by simp; omega
  by_cases c3 : 4611686018427387904 < b
  · have d3 : (4611686018427387904 : Int) < ((b : Nat) : Int) := by omega
    clear c3
    go_enter Try.func12, Try.ntmps12
    go_wp2_with fail
    go_ret2
    exact ⟨rfl, by repeat' (first | exact Fr.refl _ _ | apply Fr.alloc)⟩
  have d3 : ¬ ((4611686018427387904 : Int) < ((b : Nat) : Int)) := by omega
  by_cases c4 : 4611686018427387904 < s
  · have d4 : (4611686018427387904 : Int) < ((s : Nat) : Int) := by omega
    clear c4
    go_enter Try.func12, Try.ntmps12
    go_wp2_with fail
    go_ret2
    exact ⟨rfl, by repeat' (first | exact Fr.refl _ _ | apply Fr.alloc)⟩
  have d4 : ¬ ((4611686018427387904 : Int) < ((s : Nat) : Int)) := by omega
  by_cases c5 : 4611686018427387904 < l
  · have d5 : (4611686018427387904 : Int) < ((l : Nat) : Int) := by omega
    clear c5
    go_enter Try.func12, Try.ntmps12
    go_wp2_with fail
    go_ret2
    exact ⟨rfl, by repeat' (first | exact Fr.refl _ _ | apply Fr.alloc)⟩
  have d5 : ¬ ((4611686018427387904 : Int) < ((l : Nat) : Int)) := by omega
  by_cases c6 : 4611686018427387904 < p
  · have d6 : (4611686018427387904 : Int) < ((p : Nat) : Int) := by omega
    clear c6
    go_enter Try.func12, Try.ntmps12
    go_wp2_with fail
    go_ret2
    exact ⟨rfl, by repeat' (first | exact Fr.refl _ _ | apply Fr.alloc)⟩
  have d6 : ¬ ((4611686018427387904 : Int) < ((p : Nat) : Int)) := by omega
  by_cases c7 : ps < 1
  · have d7 : ps < 1 := by omega
    clear c7
    go_enter Try.func12, Try.ntmps12
    go_wp2_with fail
    go_ret2
    exact ⟨rfl, by repeat' (first | exact Fr.refl _ _ | apply Fr.alloc)⟩
  have d7 : ¬ (ps < 1) := by omega
  by_cases c8 : (100 : Int) < ps
  · have d8 : (100 : Int) < ps := by omega
    clear c8
    go_enter Try.func12, Try.ntmps12
    go_wp2_with fail
    go_ret2
    exact ⟨rfl, by repeat' (first | exact Fr.refl _ _ | apply Fr.alloc)⟩
  have d8 : ¬ ((100 : Int) < ps) := by omega
  by_cases c9 : pt < 0
  · have d9 : pt < 0 := by omega
    clear c9
    go_enter Try.func12, Try.ntmps12
    go_wp2_with fail
    go_ret2
    exact ⟨rfl, by repeat' (first | exact Fr.refl _ _ | apply Fr.alloc)⟩
  have d9 : ¬ (pt < 0) := by omega
  by_cases c10 : ps ≤ pt
  · have d10 : ps ≤ pt := by omega
    clear c10
    go_enter Try.func12, Try.ntmps12
    go_wp2_with fail
    go_ret2
    exact ⟨rfl, by repeat' (first | exact Fr.refl _ _ | apply Fr.alloc)⟩
  have d10 : ¬ (ps ≤ pt) := by omega
  by_cases c11 : n < 1
  · have d11 : ((n : Nat) : Int) < 1 := by omega
    clear c11
    go_enter Try.func12, Try.ntmps12
    go_wp2_with fail
    go_ret2
    exact ⟨rfl, by repeat' (first | exact Fr.refl _ _ | apply Fr.alloc)⟩
  have d11 : ¬ (((n : Nat) : Int) < 1) := by omega
  by_cases c12 : 336 < n
  · have d12 : (336 : Int) < ((n : Nat) : Int) := by omega
    clear c12
    go_enter Try.func12, Try.ntmps12
    go_wp2_with fail
    go_ret2
    exact ⟨rfl, by repeat' (first | exact Fr.refl _ _ | apply Fr.alloc)⟩
  have d12 : ¬ ((336 : Int) < ((n : Nat) : Int)) := by omega
  exfalso
  have h1 := unhide HS
  unfold cbB wiB at h1
  simp at h1
  omega
set_option maxHeartbeats 8000000 in
set_option maxRecDepth 100000 in
theorem rputEntry_ok (w : World) (b s p l pt ps : Nat) (ao : Option Addr) (n cap : Nat) (L : List UInt8) (hL : Rd w (.slice ao n cap) L) (hn : n = L.length) (h : cbB b s p l pt ps n = true) : Calls Try.prog 12 #[.agg #[.int .u64 (b : Int), .int .u64 (s : Int), .int .u64 (p : Int), .int .u64 (l : Int), .int .i64 (pt : Int), .int .i64 (ps : Int), .slice ao n cap]] w fun e w' => ∃ v', e = .returned (.tuple #[v', .int .i64 0]) ∧ Nb w w' v' (enB b s p l pt ps n L) := by
  have hh : 0 < b ∧ 0 < s ∧ 0 < l ∧ b ≤ 4611686018427387904 ∧ s ≤ 4611686018427387904 ∧ p ≤ 4611686018427387904 ∧ l ≤ 4611686018427387904 ∧ 1 ≤ ps ∧ ps ≤ 100 ∧ pt < ps ∧ 1 ≤ n ∧ n ≤ 336 := by
    unfold cbB wiB at h
    simp at h
    omega
  obtain ⟨h1, h2, h3, kb, ks, kp, kl, h4, h5, h6, h7, h8⟩ := hh
  have d0 : (((b : Nat) : Int) == 0) = false := by simp; omega
  have d1 : (((s : Nat) : Int) == 0) = false := by simp; omega
  have d2 : (((l : Nat) : Int) == 0) = false := by simp; omega
  have d3 : ¬ ((4611686018427387904 : Int) < ((b : Nat) : Int)) := by omega
  have d4 : ¬ ((4611686018427387904 : Int) < ((s : Nat) : Int)) := by omega
  have d5 : ¬ ((4611686018427387904 : Int) < ((l : Nat) : Int)) := by omega
  have d6 : ¬ ((4611686018427387904 : Int) < ((p : Nat) : Int)) := by omega
  have d7 : ¬ (((ps : Nat) : Int) < 1) := by omega
  have d8 : ¬ ((100 : Int) < ((ps : Nat) : Int)) := by omega
  have d9 : ¬ (((pt : Nat) : Int) < 0) := by omega
  have d10 : ¬ (((ps : Nat) : Int) ≤ ((pt : Nat) : Int)) := by omega
  have d11 : ¬ (((n : Nat) : Int) < 1) := by omega
  have d12 : ¬ ((336 : Int) < ((n : Nat) : Int)) := by omega
  have Hb := hide (show b < 18446744073709551616 by omega)
  have Hs := hide (show s < 18446744073709551616 by omega)
  have Hp := hide (show p < 18446744073709551616 by omega)
  have Hl := hide (show l < 18446744073709551616 by omega)
  have Hpt := hide (show pt < 65536 by omega)
  have Hps := hide (show ps < 65536 by omega)
  have Hn := hide (show n < 65536 by omega)
  have HLN := hide (show L.length ≤ 336 by omega)
  have hxo : ∀ c, (Value.slice ao n cap).ownBlock = some c → c < w.heap.size := fun c e => by
    obtain ⟨g, of, rfl, -, -, -, hcc⟩ := hL.lits (by omega)
    simp [Value.ownBlock] at e
    subst e
    exact World.block_lt_of_cell? w _ (hcc 0 (by omega))
  have F0 := hide ((Fr.refl (fun _ => False) w).alloc (.cells #[.int .u64 (b : Int), .int .u64 (s : Int), .int .u64 (p : Int), .int .u64 (l : Int), .int .i64 (pt : Int), .int .i64 (ps : Int), .slice ao n cap] 25))
  have hp := heap_alloc_new w (.cells #[.int .u64 (b : Int), .int .u64 (s : Int), .int .u64 (p : Int), .int .u64 (l : Int), .int .i64 (pt : Int), .int .i64 (ps : Int), .slice ao n cap] 25)
  have HXO := hide (fun c e => Nat.lt_of_lt_of_le (hxo c e) (unhide F0).size)
  have HP := hide hp
  have HR := hide hL
  have HNL := hide hn
  clear h h1 h2 h3 kb ks kp kl h4 h5 h6 h7 h8 hp hxo hL hn
  go_enter Try.func12, Try.ntmps12
  go_upto_region 3 with fail
  refine gr12 (unhide HP) (unhide Hb) (unhide Hs) ?_
  intro y1 y2 y3 y4 y5 y6 y7 y8 v1 W1 hN1
  have HN1 := hide hN1
  have HP1 := hide ((hN1.fr.block _ (lt_of_heap (unhide HP)) id).trans (unhide HP))
  clear hN1
  go_upto_region 4 with fail
  refine gr12_4 (unhide HN1) (unhide HP1) (unhide Hp) (unhide Hl) (by simp [be_length]) ?_
  intro z1 z2 z3 z4 z5 z6 z7 v2 W2 hN2 hp2 _
  have HN2 := hide hN2
  have HP2 := hide hp2
  clear hN2 hp2
  go_upto_region 5 with fail
  refine gr12_5 (unhide HN2) (unhide HP2) (unhide Hpt) (unhide Hps) (unhide Hn) (by simp [be_length]) ?_
  intro q1 q2 q3 q4 q5 q6 q7 q8 q9 q10 q11 q12 q13 q14 v3 W3 hN3 hp3 _
  have HN3 := hide hN3
  have HP3 := hide hp3
  clear hN3 hp3
  go_upto_region 6 with fail
  refine gr12_6 (unhide HN3) (unhide HP3) ((unhide HR).kept ((unhide F0).trans (unhide HN3).fr (fun _ _ e => e)) (fun _ _ e => e)) (unhide HXO) (by simp [be_length]) (by simp [be_length]) (by have := unhide HLN; omega) ?_
  intro r1 r2 r3 r4 r5 v4 W4 hN4 hp4 _
  have HL4 : Hid (([74, 76, 79, 71] ++ be 8 b ++ be 8 s ++ be 8 p ++ be 8 l ++ be 2 pt ++ be 2 ps ++ be 2 n ++ List.replicate 6 0 ++ L : List UInt8).length = 48 + L.length) := hide (by simp [be_length]; omega)
  have HSU : Hid (([74, 76, 79, 71] ++ be 8 b ++ be 8 s ++ be 8 p ++ be 8 l ++ be 2 pt ++ be 2 ps ++ be 2 n ++ List.replicate 6 0 ++ L : List UInt8) ++ List.replicate (384 - (48 + L.length)) 0 = enB b s p l pt ps n L) := hide (by
    have e : 384 - (48 + L.length) = 336 - L.length := by omega
    unfold enB lay
    rw [e]
    simp)
  have HN4 := hide hN4
  clear hN4 hp4
  go_wp2_with (go_at_call 53; refine (filledS_any _ W4 W4 _ _ (unhide HN4).nw (by rw [unhide HL4]; omega) (by rw [unhide HL4]; have := unhide HLN; omega)).mono ?_; rintro e W5 ⟨v5, rfl, hv5⟩; have hN5 := (unhide HN4).then hv5; rw [unhide HL4, unhide HSU] at hN5; have HN5 := hide hN5; clear hN5 hv5)
  go_ret2
  exact ⟨_, rfl, (unhide HN5).from (unhide F0)⟩
end Go.Proofs.Ytgodlfoidjeekaa

namespace Go.Proofs.Ytgodlfoidjeekaa
set_option linter.unusedVariables false
set_option linter.unusedSimpArgs false
open Go.RowKit Go.Lib
set_option linter.unusedVariables false
set_option linter.unusedSimpArgs false

attribute [local go_sem ↓] Go.wp_at_zero Go.wp_at_succ

section
variable {ρ : Operand → Value} {o : Oper} {w : World} {x y : Operand}
theorem x_idx28 {B of n cap j : Nat} (ho : o.op = .indexAddr 28 x y) (hx : ρ x = .slice (some ⟨B, of, none⟩) n cap) (hy : ρ y = .int .i64 (j : Int)) (hj : j < n) (hc : n ≤ cap) : (execOp ρ o).run Try.prog w = .ok (.value (.pointer (some ⟨B, of + j * 2, none⟩))) w := by
  have h2 : j < cap := by omega
  simp [execOp, ho, hx, hy, go_sem, hj, h2]
theorem x_fieldG0 {b of : Nat} (ho : o.op = .fieldAddr 94 x 0) (hx : ρ x = .pointer (some ⟨b, of, none⟩)) : (execOp ρ o).run Try.prog w = .ok (.value (.pointer (some ⟨b, of, none⟩))) w := by
  simp [execOp, ho, hx, go_sem]
theorem x_fieldG1 {b of : Nat} (ho : o.op = .fieldAddr 94 x 1) (hx : ρ x = .pointer (some ⟨b, of, none⟩)) : (execOp ρ o).run Try.prog w = .ok (.value (.pointer (some ⟨b, of + 1, none⟩))) w := by
  simp [execOp, ho, hx, go_sem]
end
set_option maxHeartbeats 8000000 in
set_option maxRecDepth 100000 in
theorem gr17 {W0 W : World} {B of n cap j z : Nat} {x v4 : Value} {l bs : List UInt8} {u1 u2 u3 u6 u7 u8 u9 u10 u11 u12 u13 u14 u15 u16 u17 u18 u19 u20 u21 u22 u23 u24 u25 u26 u27 u28 u29 u30 u31 u32 u33 u34 u35 u36 u37 u38 u39 u40 u41 u42 u43 u44 u45 u46 u47 u48 u49 u50 u51 u52 u53 u54 u55 u56 u57 u58 u59 u60 u61 : Value} {Q : Exit → Act → World → Prop} (hN : Nb W0 W v4 l) (hB : B < W0.heap.size) (hj : j < n) (hnc : n ≤ cap) (c0 : W.cell? ⟨B, of + j * 2, none⟩ = some (.int .i64 (z : Int))) (c1 : W.cell? ⟨B, of + j * 2 + 1, none⟩ = some x) (hz : z < 4294967296) (hx0 : Rd W x bs) (hxo : ∀ b, x.ownBlock = some b → b < W0.heap.size) (hl : l.length ≤ 50000) (hbs : bs.length ≤ 1000)
    (hQ : ∀ (y47 y48 y49 y50 y51 y52 y53 y54 y55 y56 y57 y58 y59 y60 : Value) (v' : Value) (W' : World), Nb W0 W' v' (l ++ be 4 z ++ bs) → W.heap.size ≤ W'.heap.size → Q .normal ⟨#[.slice (some ⟨B, of, none⟩) n cap, u1, u2, u3, v', .int .i64 (j : Int), u6, u7, u8, u9, u10, u11, u12, u13, u14, u15, u16, u17, u18, u19, u20, u21, u22, u23, u24, u25, u26, u27, u28, u29, u30, u31, u32, u33, u34, u35, u36, u37, u38, u39, u40, u41, u42, u43, u44, u45, u46, y47, y48, y49, y50, y51, y52, y53, y54, y55, y56, y57, y58, y59, y60, u61], []⟩ W') : (rgF Try.f17 9).wp Try.prog Q ⟨#[.slice (some ⟨B, of, none⟩) n cap, u1, u2, u3, v4, .int .i64 (j : Int), u6, u7, u8, u9, u10, u11, u12, u13, u14, u15, u16, u17, u18, u19, u20, u21, u22, u23, u24, u25, u26, u27, u28, u29, u30, u31, u32, u33, u34, u35, u36, u37, u38, u39, u40, u41, u42, u43, u44, u45, u46, u47, u48, u49, u50, u51, u52, u53, u54, u55, u56, u57, u58, u59, u60, u61], []⟩ W := by
  have HQ := hide hQ
  clear hQ
  conv => arg 2; whnf
  refine wp_nm ?_
  intro a0 hA
  have s0 : a0.tmps.getD 0 undef = .slice (some ⟨B, of, none⟩) n cap := by rw [hA]; rfl
  have s4 : a0.tmps.getD 4 undef = v4 := by rw [hA]; rfl
  have s5 : a0.tmps.getD 5 undef = .int .i64 (j : Int) := by rw [hA]; rfl
  have hsz : a0.tmps.size = 62 := by rw [hA]; rfl
  have hdf : a0.defers = [] := by rw [hA]
  refine wp_region_chainA (by kernel_rfl) (by kernel_rfl) (by decide +kernel) (by rw [hsz]; decide +kernel) (fun w w' => RY (fun b => v4.ownBlock = some b ∨ W.heap.size ≤ b) w w') (RY.of_fr (Fr.refl _ _).drew) (fun _ _ _ => RY.trans) (Tw [KV.any, KV.eq (.slice (some ⟨B, of, none⟩) n cap), KV.eq (.int .i64 (j : Int)), KV.eq (.pointer (some ⟨B, of + j * 2, none⟩)), KV.eq (.pointer (some ⟨B, of + j * 2, none⟩)), KV.eq (.int .i64 (z : Int)), KV.eq (.int .u64 (z : Int)), KV.any, KV.eq (.slice (some ⟨B, of, none⟩) n cap), KV.eq (.int .i64 (j : Int)), KV.eq (.pointer (some ⟨B, of + j * 2, none⟩)), KV.eq (.pointer (some ⟨B, of + j * 2 + 1, none⟩)), KV.eq x, KV.any, KV.any]) (Tw.mono _) [0, 7, 13, 14] (by decide) (by decide) (fun k i j h1 h2 => ?cp) (StC (fun b => v4.ownBlock = some b) W [some (4, l), some (47, l), some (54, l ++ be 4 z), some (60, l ++ be 4 z ++ bs), some (4, l ++ be 4 z ++ bs)]) ?st0 ?steps ?done
  case cp =>
    match k, h1, h2 with
    | 0, h1, h2 => simp at h1 h2; subst h1; subst h2; exact .one rfl (by kernel_rfl)
    | 1, h1, h2 => simp at h1 h2; subst h1; subst h2; exact .one rfl (by kernel_rfl)
    | 2, h1, h2 => simp at h1 h2; subst h1; subst h2; exact .one rfl (by kernel_rfl)
    | 3, h1, h2 => simp at h2
    | k + 4, h1, h2 => simp at h2
  case st0 =>
    intro s l' e
    simp at e
    obtain ⟨rfl, rfl⟩ := e
    rw [s4]
    exact hN.nw.kept (Fr.refl _ _).drew
  case steps =>
    have no : ∀ b, b < W0.heap.size → ¬ (v4.ownBlock = some b ∨ W.heap.size ≤ b) := fun b h1 h => by
      have h2 := hN.fr.size
      rcases h with h | h
      · have := hN.new b h; omega
      · omega
    have hBW : B < W.heap.size := Nat.lt_of_lt_of_le hB hN.fr.size
    have HC0 : ∀ w', RY (fun b => v4.ownBlock = some b ∨ W.heap.size ≤ b) W w' → w'.cell? ⟨B, of + j * 2, none⟩ = some (.int .i64 (z : Int)) := fun w' f => by rw [f.fr.cell hBW (no B hB)]; exact c0
    have HC1 : ∀ w', RY (fun b => v4.ownBlock = some b ∨ W.heap.size ≤ b) W w' → w'.cell? ⟨B, of + j * 2 + 1, none⟩ = some x := fun w' f => by rw [f.fr.cell hBW (no B hB)]; exact c1
    have HX : ∀ w', RY (fun b => v4.ownBlock = some b ∨ W.heap.size ≤ b) W w' → Rd w' x bs := fun w' f => hx0.kept f.fr (fun b e h => no b (hxo b e) h)
    refine ⟨?_, ?_⟩
    · intro a' w' k hb hR hst hck hle hd
      obtain rfl : 0 = k := hck 0 rfl
      have hn := hst 4 _ rfl
      exact .inl ⟨wanted_none rfl, ch_move (by decide) (.inl rfl) rfl rfl (by rw [hb.size, hsz]; decide) rfl hn (fun _ _ => trivial)⟩
    refine ⟨?_, ?_⟩
    · intro a' w' k hb hR hst hck hle hd
      exact .inl ⟨wanted_none rfl, la_val _ _ (by decide) (x_move rfl ((hb.old 0 (by decide +kernel)).trans s0)) rfl (RY.of_fr (Fr.refl _ _)) (hst.put rfl (Fr.refl _ _))⟩
    refine ⟨?_, ?_⟩
    · intro a' w' k hb hR hst hck hle hd
      exact .inl ⟨wanted_none rfl, la_val _ _ (by decide) (x_move rfl ((hb.old 5 (by decide +kernel)).trans s5)) rfl (RY.of_fr (Fr.refl _ _)) (hst.put rfl (Fr.refl _ _))⟩
    refine ⟨?_, ?_⟩
    · intro a' w' k hb hR hst hck hle hd
      have e0 : a'.tmps.getD 48 undef = .slice (some ⟨B, of, none⟩) n cap := hd 1 (by kernel_rfl) 48 rfl
      have e1 : a'.tmps.getD 49 undef = .int .i64 (j : Int) := hd 2 (by kernel_rfl) 49 rfl
      exact .inl ⟨wanted_none rfl, la_val _ _ (by decide) (x_idx28 (x := .tmp 48) (y := .tmp 49) rfl e0 e1 hj hnc) rfl (RY.of_fr (Fr.refl _ _)) (hst.put rfl (Fr.refl _ _))⟩
    refine ⟨?_, ?_⟩
    · intro a' w' k hb hR hst hck hle hd
      have e0 : a'.tmps.getD 50 undef = .pointer (some ⟨B, of + j * 2, none⟩) := hd 3 (by kernel_rfl) 50 rfl
      exact .inl ⟨wanted_none rfl, la_val _ _ (by decide) (x_fieldG0 (x := .tmp 50) rfl e0) rfl (RY.of_fr (Fr.refl _ _)) (hst.put rfl (Fr.refl _ _))⟩
    refine ⟨?_, ?_⟩
    · intro a' w' k hb hR hst hck hle hd
      exact .inl ⟨wanted_none rfl, la_val _ _ (by decide) (x_load1 ld3 rfl (hd 4 (by kernel_rfl) 51 rfl) (HC0 w' hR)) rfl (RY.of_fr (Fr.refl _ _)) (hst.put rfl (Fr.refl _ _))⟩
    refine ⟨?_, ?_⟩
    · intro a' w' k hb hR hst hck hle hd
      exact .inl ⟨wanted_none rfl, la_val _ _ (by decide) (x_conv rfl (hd 5 (by kernel_rfl) 52 rfl) (cv32 _ _ hz)) rfl (RY.of_fr (Fr.refl _ _)) (hst.put rfl (Fr.refl _ _))⟩
    refine ⟨?_, ?_⟩
    · intro a' w' k hb hR hst hck hle hd
      obtain rfl : 1 = k := hck 1 rfl
      have hn := hst 47 _ rfl
      have e1 : a'.tmps.getD 53 undef = .int .u64 (z : Int) := hd 6 (by kernel_rfl) 53 rfl
      exact .inl ⟨wanted_none rfl, ch_put (by decide) rfl rfl rfl e1 rfl (.inr (.inl rfl)) (by omega) (by omega) rfl (by rw [hb.size, hsz]; decide) rfl hn (fun _ _ => trivial)⟩
    refine ⟨?_, ?_⟩
    · intro a' w' k hb hR hst hck hle hd
      exact .inl ⟨wanted_none rfl, la_val _ _ (by decide) (x_move rfl ((hb.old 0 (by decide +kernel)).trans s0)) rfl (RY.of_fr (Fr.refl _ _)) (hst.put rfl (Fr.refl _ _))⟩
    refine ⟨?_, ?_⟩
    · intro a' w' k hb hR hst hck hle hd
      exact .inl ⟨wanted_none rfl, la_val _ _ (by decide) (x_move rfl ((hb.old 5 (by decide +kernel)).trans s5)) rfl (RY.of_fr (Fr.refl _ _)) (hst.put rfl (Fr.refl _ _))⟩
    refine ⟨?_, ?_⟩
    · intro a' w' k hb hR hst hck hle hd
      have e0 : a'.tmps.getD 55 undef = .slice (some ⟨B, of, none⟩) n cap := hd 8 (by kernel_rfl) 55 rfl
      have e1 : a'.tmps.getD 56 undef = .int .i64 (j : Int) := hd 9 (by kernel_rfl) 56 rfl
      exact .inl ⟨wanted_none rfl, la_val _ _ (by decide) (x_idx28 (x := .tmp 55) (y := .tmp 56) rfl e0 e1 hj hnc) rfl (RY.of_fr (Fr.refl _ _)) (hst.put rfl (Fr.refl _ _))⟩
    refine ⟨?_, ?_⟩
    · intro a' w' k hb hR hst hck hle hd
      have e0 : a'.tmps.getD 57 undef = .pointer (some ⟨B, of + j * 2, none⟩) := hd 10 (by kernel_rfl) 57 rfl
      exact .inl ⟨wanted_none rfl, la_val _ _ (by decide) (x_fieldG1 (x := .tmp 57) rfl e0) rfl (RY.of_fr (Fr.refl _ _)) (hst.put rfl (Fr.refl _ _))⟩
    refine ⟨?_, ?_⟩
    · intro a' w' k hb hR hst hck hle hd
      exact .inl ⟨wanted_none rfl, la_val _ _ (by decide) (x_load1 ld23 rfl (hd 11 (by kernel_rfl) 58 rfl) (HC1 w' hR)) rfl (RY.of_fr (Fr.refl _ _)) (hst.put rfl (Fr.refl _ _))⟩
    refine ⟨?_, ?_⟩
    · intro a' w' k hb hR hst hck hle hd
      obtain rfl : 2 = k := hck 2 rfl
      have hn := hst 54 _ rfl
      have e1 : a'.tmps.getD 59 undef = x := hd 12 (by kernel_rfl) 59 rfl
      exact .inl ⟨wanted_none rfl, ch_app (by decide) rfl rfl rfl e1 (HX w' hR) (by simp only [List.length_append, be_length]; omega) rfl (by rw [hb.size, hsz]; decide) rfl hn (fun _ _ => trivial)⟩
    refine ⟨?_, ?_⟩
    · intro a' w' k hb hR hst hck hle hd
      obtain rfl : 3 = k := hck 3 rfl
      have hn := hst 60 _ rfl
      exact .inl ⟨wanted_none rfl, ch_move (by decide) (.inr rfl) rfl rfl (by rw [hb.size, hsz]; decide) rfl hn (fun _ _ => trivial)⟩
    exact trivial
  case done =>
    intro a' w' hb hR hst hall
    have hn := hst 4 _ rfl
    have hfr := frame_eq (a := a') (vs := [.slice (some ⟨B, of, none⟩) n cap, u1, u2, u3, a'.tmps.getD 4 undef, .int .i64 (j : Int), u6, u7, u8, u9, u10, u11, u12, u13, u14, u15, u16, u17, u18, u19, u20, u21, u22, u23, u24, u25, u26, u27, u28, u29, u30, u31, u32, u33, u34, u35, u36, u37, u38, u39, u40, u41, u42, u43, u44, u45, u46, a'.tmps.getD 47 undef, a'.tmps.getD 48 undef, a'.tmps.getD 49 undef, a'.tmps.getD 50 undef, a'.tmps.getD 51 undef, a'.tmps.getD 52 undef, a'.tmps.getD 53 undef, a'.tmps.getD 54 undef, a'.tmps.getD 55 undef, a'.tmps.getD 56 undef, a'.tmps.getD 57 undef, a'.tmps.getD 58 undef, a'.tmps.getD 59 undef, a'.tmps.getD 60 undef, u61]) (by rw [hb.size, hsz]; rfl) (by rw [hb.defers, hdf]) ⟨(hb.old 0 (by decide +kernel)).trans (by rw [hA]; rfl), (hb.old 1 (by decide +kernel)).trans (by rw [hA]; rfl), (hb.old 2 (by decide +kernel)).trans (by rw [hA]; rfl), (hb.old 3 (by decide +kernel)).trans (by rw [hA]; rfl), rfl, (hb.old 5 (by decide +kernel)).trans (by rw [hA]; rfl), (hb.old 6 (by decide +kernel)).trans (by rw [hA]; rfl), (hb.old 7 (by decide +kernel)).trans (by rw [hA]; rfl), (hb.old 8 (by decide +kernel)).trans (by rw [hA]; rfl), (hb.old 9 (by decide +kernel)).trans (by rw [hA]; rfl), (hb.old 10 (by decide +kernel)).trans (by rw [hA]; rfl), (hb.old 11 (by decide +kernel)).trans (by rw [hA]; rfl), (hb.old 12 (by decide +kernel)).trans (by rw [hA]; rfl), (hb.old 13 (by decide +kernel)).trans (by rw [hA]; rfl), (hb.old 14 (by decide +kernel)).trans (by rw [hA]; rfl), (hb.old 15 (by decide +kernel)).trans (by rw [hA]; rfl), (hb.old 16 (by decide +kernel)).trans (by rw [hA]; rfl), (hb.old 17 (by decide +kernel)).trans (by rw [hA]; rfl), (hb.old 18 (by decide +kernel)).trans (by rw [hA]; rfl), (hb.old 19 (by decide +kernel)).trans (by rw [hA]; rfl), (hb.old 20 (by decide +kernel)).trans (by rw [hA]; rfl), (hb.old 21 (by decide +kernel)).trans (by rw [hA]; rfl), (hb.old 22 (by decide +kernel)).trans (by rw [hA]; rfl), (hb.old 23 (by decide +kernel)).trans (by rw [hA]; rfl), (hb.old 24 (by decide +kernel)).trans (by rw [hA]; rfl), (hb.old 25 (by decide +kernel)).trans (by rw [hA]; rfl), (hb.old 26 (by decide +kernel)).trans (by rw [hA]; rfl), (hb.old 27 (by decide +kernel)).trans (by rw [hA]; rfl), (hb.old 28 (by decide +kernel)).trans (by rw [hA]; rfl), (hb.old 29 (by decide +kernel)).trans (by rw [hA]; rfl), (hb.old 30 (by decide +kernel)).trans (by rw [hA]; rfl), (hb.old 31 (by decide +kernel)).trans (by rw [hA]; rfl), (hb.old 32 (by decide +kernel)).trans (by rw [hA]; rfl), (hb.old 33 (by decide +kernel)).trans (by rw [hA]; rfl), (hb.old 34 (by decide +kernel)).trans (by rw [hA]; rfl), (hb.old 35 (by decide +kernel)).trans (by rw [hA]; rfl), (hb.old 36 (by decide +kernel)).trans (by rw [hA]; rfl), (hb.old 37 (by decide +kernel)).trans (by rw [hA]; rfl), (hb.old 38 (by decide +kernel)).trans (by rw [hA]; rfl), (hb.old 39 (by decide +kernel)).trans (by rw [hA]; rfl), (hb.old 40 (by decide +kernel)).trans (by rw [hA]; rfl), (hb.old 41 (by decide +kernel)).trans (by rw [hA]; rfl), (hb.old 42 (by decide +kernel)).trans (by rw [hA]; rfl), (hb.old 43 (by decide +kernel)).trans (by rw [hA]; rfl), (hb.old 44 (by decide +kernel)).trans (by rw [hA]; rfl), (hb.old 45 (by decide +kernel)).trans (by rw [hA]; rfl), (hb.old 46 (by decide +kernel)).trans (by rw [hA]; rfl), rfl, rfl, rfl, rfl, rfl, rfl, rfl, rfl, rfl, rfl, rfl, rfl, rfl, rfl, (hb.old 61 (by decide +kernel)).trans (by rw [hA]; rfl), trivial⟩
    rw [hfr]
    exact unhide HQ _ _ _ _ _ _ _ _ _ _ _ _ _ _ _ w' (hN.then hn) hR.fr.size
end Go.Proofs.Ytgodlfoidjeekaa

namespace Go.Proofs.Ytgodlfoidjeekaa
set_option linter.unusedVariables false
set_option linter.unusedSimpArgs false
open Go.RowKit Go.Lib
set_option linter.unusedVariables false
set_option linter.unusedSimpArgs false

attribute [local go_sem ↓] Go.wp_at_zero Go.wp_at_succ

set_option maxHeartbeats 8000000 in
set_option maxRecDepth 100000 in
theorem rputTx_any (w : World) (v : Value) (ps : List (Int × List UInt8)) (h : RdP w v ps) (hl : ps.length ≤ 100000) : Calls Try.prog 17 #[v] w fun e w' => ∃ r c, e = .returned (.tuple #[r, .int .i64 c]) ∧ Pt ps w r c w' := by
  obtain ⟨ao, cap, rfl⟩ := h.shape
  have HH := hide h
  clear h
  obtain ⟨n, hn⟩ : ∃ n, n = ps.length := ⟨_, rfl⟩
  rw [← hn] at HH hl ⊢
  have HN := hide hn
  cases hct : ctB (n : Int)
  · have HP : Hid (ptB ps = false) := hide (by unfold ptB; rw [← hn, hct]; rfl)
    by_cases c1 : n < 1
    · have d1 : ((n : Nat) : Int) < 1 := by omega
      clear hn hl c1 hct
      go_enter Try.func17, Try.ntmps17
      go_wp2_with fail
      go_ret2
      exact ⟨_, _, rfl, Pt.no (unhide HP) (Fr.refl _ _)⟩
    · have d1 : ¬ (((n : Nat) : Int) < 1) := by omega
      have d2 : (64 : Int) < ((n : Nat) : Int) := by unfold ctB at hct; simp at hct; omega
      clear hn hl c1 hct
      go_enter Try.func17, Try.ntmps17
      go_wp2_with fail
      go_ret2
      exact ⟨_, _, rfl, Pt.no (unhide HP) (Fr.refl _ _)⟩
  · have h64 : 1 ≤ n ∧ n ≤ 64 := by unfold ctB at hct; simp at hct; omega
    obtain ⟨h1, h2⟩ := h64
    have d1 : ¬ (((n : Nat) : Int) < 1) := by omega
    have d2 : ¬ ((64 : Int) < ((n : Nat) : Int)) := by omega
    have e2 : IntKind.u64.wrap (n : Int) = (n : Int) := by simp [IntKind.wrap, IntKind.signed, IntKind.bits]; omega
    clear hn hl
    have HQ0 := hide (rputS_any _ w w _ [] 4 n (Nb.nil (Fr.refl (fun _ => False) w)).nw (.inr (.inl rfl)) (by simp) (by omega))
    go_enter Try.func17, Try.ntmps17
    go_wp2_with (go_at_call 52; refine (unhide HQ0).mono ?_; rintro e w2 ⟨v2, rfl, hv2⟩; have HV2 := hide ((Nb.nil (Fr.refl (fun _ => False) w)).then hv2); clear hv2)
    go_loopw [4, 5] (fun o y W => ∃ (j : Nat), j ≤ n ∧ y = .int .i64 (j : Int) ∧ Nb w W o (lay 4 [n] ++ pbs (ps.take j)) ∧ (ps.take j).all pOk = true) (fun _ y _ => n - (intOf y).toNat)
    case atStart => exact ⟨0, by omega, rfl, by simpa [pbs, lay] using unhide HV2, by simp⟩
    case round =>
      clear HV2 HQ0
      obtain ⟨j, hj, rfl, hNb, hok⟩ := hrel
      by_cases hlt : j < n
      · have jl : j < ps.length := by rw [← unhide HN]; exact hlt
        obtain ⟨B, o, rfl, hnc, hcm, hc⟩ := (unhide HH).lits (by omega)
        obtain ⟨c0, x, c1, hx⟩ := hc j jl
        have hB : B < w.heap.size := World.block_lt_of_cell? w _ c0
        have f := hNb.fr
        rw [← f.cell hB id] at c0 c1
        have hxw : ∀ b, x.ownBlock = some b → 0 < (ps[j]).2.length → b < w.heap.size := fun b e hp => by
          obtain ⟨xo, xc, rfl⟩ := hx.shape
          obtain ⟨g, of, rfl, -, -, -, hcc⟩ := hx.lits hp
          simp [Value.ownBlock] at e
          subst e
          exact World.block_lt_of_cell? w _ (hcc 0 hp)
        have HXW := hide hxw
        have HX := hide hx
        obtain ⟨xo, xc, rfl⟩ := hx.shape
        have HBAD := hide (fun h => ptB_bad jl h)
        have HTK := hide (pbs_take jl)
        have HOK := hide (ok_take jl hok)
        have HNB := hide hNb
        have HLEN : Hid ((lay 4 [n] ++ pbs (ps.take j)).length = 4 + 388 * j) := hide (by rw [List.length_append, pbs_length hok, lay_length, List.length_take]; simp; omega)
        have hjc : j < cap := by have := unhide HN; omega
        have F := hide f
        have HB0 := hide hB
        have HNC := hide (show n ≤ cap by have := unhide HN; omega)
        generalize ps[j] = pp at *
        obtain ⟨z, bs⟩ := pp
        simp only at c0 c1 HX HXW
        obtain ⟨m, hm⟩ : ∃ m, m = bs.length := ⟨_, rfl⟩
        rw [← hm] at c1 HX HXW
        have HM := hide hm
        clear hc hx hxw hNb hok f jl hcm hnc hm
        by_cases hz0 : z < 0
        · have HP := hide (unhide HBAD (by unfold pOk; simp; omega))
          clear HBAD HTK HOK HXW
          go_wp2_with fail
          go_ret2
          exact ⟨_, _, rfl, Pt.no (unhide HP) (unhide F)⟩
        · by_cases hz1 : z > 2147483647
          · have HP := hide (unhide HBAD (by unfold pOk; simp; omega))
            clear HBAD HTK HOK HXW
            go_wp2_with fail
            go_ret2
            exact ⟨_, _, rfl, Pt.no (unhide HP) (unhide F)⟩
          · by_cases hm : m = 384
            · obtain ⟨zn, rfl⟩ : ∃ zn : Nat, z = (zn : Int) := ⟨z.toNat, by omega⟩
              have HO2 := hide (unhide HOK (by have := unhide HM; unfold pOk; simp; omega))
              have HZ := hide (show zn < 4294967296 by omega)
              subst hm
              clear HBAD HOK
              go_upto_region 9 with fail
              refine gr17 (unhide HNB) (unhide HB0) hlt (unhide HNC) c0 c1 (unhide HZ) ((unhide HX).kept (unhide F) (fun _ _ h => h)) (fun b e => unhide HXW b e (by decide)) (by rw [unhide HLEN]; omega) (by have := unhide HM; omega) ?_
              intro y47 y48 y49 y50 y51 y52 y53 y54 y55 y56 y57 y58 y59 y60 v' W' hv' hsz'
              have HV := hide hv'
              clear hv' hsz' c0 c1 HNB HX F HXW
              go_wp2_with fail
              go_roundw
              case rel =>
                refine ⟨j + 1, by omega, by go_num, ?_, unhide HO2⟩
                have h9 := unhide HTK
                simp only [Int.toNat_natCast] at h9
                rw [h9, ← List.append_assoc, ← List.append_assoc]
                simpa [lay] using unhide HV
              case measure => simp [intOf]; omega
            · have HP := hide (unhide HBAD (by have := unhide HM; unfold pOk; simp; omega))
              have dm : ((m : Int) == 384) = false := by simp; omega
              have dm2 : ¬ ((m : Int) = 384) := by omega
              clear HBAD HTK HOK HXW
              go_wp2_with fail
              go_ret2
              exact ⟨_, _, rfl, Pt.no (unhide HP) (unhide F)⟩
      · obtain rfl : n = j := by omega
        have hpl : lay 4 [n] ++ pbs (ps.take n) = ptL ps := by
          have := unhide HN
          rw [List.take_of_length_le (by omega), this]; rfl
        rw [hpl] at hNb
        have HP := hide hNb
        have HT : Hid (ptB ps = true) := hide (by
          have := unhide HN
          rw [List.take_of_length_le (by omega)] at hok
          unfold ptB
          rw [← this, hct, hok]; rfl)
        clear hNb hok
        go_wp2_with fail
        go_ret2
        exact ⟨_, _, rfl, Pt.ok (unhide HT) (unhide HP)⟩
end Go.Proofs.Ytgodlfoidjeekaa

namespace Go.Proofs.Ytgodlfoidjeekaa
set_option linter.unusedVariables false
set_option linter.unusedSimpArgs false
open Go.RowKit Go.Lib
set_option linter.unusedVariables false
set_option linter.unusedSimpArgs false

attribute [local go_sem ↓] Go.wp_at_zero Go.wp_at_succ

theorem sn_nb (l : List UInt8) (c : Nat) (hc : c < 6) : sn l c = nb l (4 + 8 * c) 8 := by
  unfold sn nb
  rw [List.drop_take, List.take_take, List.drop_drop]
  congr 2
  · omega
  · congr 1; omega
set_option maxHeartbeats 8000000 in
set_option maxRecDepth 100000 in
theorem rgetSuper_len (w : World) (v : Value) (l : List UInt8) (h : Rd w v l) (hl : l.length ≠ 384) : Calls Try.prog 24 #[v] w fun e w' => e = .returned (.tuple #[.agg #[.int .u64 0, .int .u64 0, .int .u64 0, .int .u64 0, .int .u64 0, .int .u64 0], .int .i64 81]) ∧ Fr (fun _ => False) w w' := by
  obtain ⟨ao, cap, rfl⟩ := h.shape
  clear h
  obtain ⟨n, hn⟩ : ∃ n, n = l.length := ⟨_, rfl⟩
  rw [← hn] at hl ⊢
  have d1 : ((n : Int) == 384) = false := by simp; omega
  have d2 : ¬ ((n : Int) = 384) := by omega
  clear hl hn
  go_enter Try.func24, Try.ntmps24
  go_wp2_with fail
  refine ret_ceR 27 6 _ Try.underlying27 (by kernel_rfl) w.heap.size #[.int .u64 0, .int .u64 0, .int .u64 0, .int .u64 0, .int .u64 0, .int .u64 0] 27 rfl rfl rfl (heap_alloc_new w _) rfl ?_
  exact ⟨rfl, by repeat' (first | exact Fr.refl _ _ | apply Fr.alloc)⟩
set_option maxHeartbeats 8000000 in
set_option maxRecDepth 100000 in
theorem rgetSuper_no (w : World) (v : Value) (l : List UInt8) (h : Rd w v l) (hl : l.length = 384) (hs : sbB (sn l 0) (sn l 1) (sn l 2) (sn l 3) (sn l 4) (sn l 5) = false) : Calls Try.prog 24 #[v] w fun e w' => e = .returned (.tuple #[.agg #[.int .u64 0, .int .u64 0, .int .u64 0, .int .u64 0, .int .u64 0, .int .u64 0], .int .i64 81]) ∧ Fr (fun _ => False) w w' := by
  rw [sn_nb l 0 (by omega), sn_nb l 1 (by omega), sn_nb l 2 (by omega), sn_nb l 3 (by omega), sn_nb l 4 (by omega), sn_nb l 5 (by omega)] at hs
  simp only [Nat.reduceMul, Nat.reduceAdd] at hs
  obtain ⟨ao, cap, rfl⟩ := h.shape
  obtain ⟨B0, o0, rfl, -, hnc, hcm, hcell⟩ := h.lits (by omega)
  have hB0 : B0 < w.heap.size := World.block_lt_of_cell? w _ (hcell 0 (by omega))
  rw [hl] at h hnc ⊢
  have HL := hide hl
  have HR := hide h
  have H60 := hide (fun W (f : Fr (fun _ => False) w W) (pz : Int) (h0 : 0 ≤ pz) (h1 : pz + 8 ≤ 384) => rnumber_any W B0 o0 384 cap l pz.toNat 8 8 pz rfl (by omega) hl.symm hnc hcm (by omega) (by omega) (by omega) (fun j hj => by rw [f.cell hB0 id]; exact hcell j hj))
  have HS := hide hs
  clear h hl hs hcm hcell hB0
  have hz3 := (Below.heap_alloc (w.alloc (.cells #[.int .u64 0, .int .u64 0, .int .u64 0, .int .u64 0, .int .u64 0, .int .u64 0] 27)) (.cells #[.int .u64 ((nb l 4 8) : Int), .int .u64 ((nb l 12 8) : Int), .int .u64 ((nb l 20 8) : Int), .int .u64 ((nb l 28 8) : Int), .int .u64 ((nb l 36 8) : Int), .int .u64 ((nb l 44 8) : Int)] 27) w.heap.size (by simp)).trans (heap_alloc_new w (.cells #[.int .u64 0, .int .u64 0, .int .u64 0, .int .u64 0, .int .u64 0, .int .u64 0] 27))
  have hh := heap_alloc_new (w.alloc (.cells #[.int .u64 0, .int .u64 0, .int .u64 0, .int .u64 0, .int .u64 0, .int .u64 0] 27)) (.cells #[.int .u64 ((nb l 4 8) : Int), .int .u64 ((nb l 12 8) : Int), .int .u64 ((nb l 20 8) : Int), .int .u64 ((nb l 28 8) : Int), .int .u64 ((nb l 36 8) : Int), .int .u64 ((nb l 44 8) : Int)] 27)
  have F3 := hide (((Fr.refl (fun _ => False) w).alloc (.cells #[.int .u64 0, .int .u64 0, .int .u64 0, .int .u64 0, .int .u64 0, .int .u64 0] 27)).alloc (.cells #[.int .u64 ((nb l 4 8) : Int), .int .u64 ((nb l 12 8) : Int), .int .u64 ((nb l 20 8) : Int), .int .u64 ((nb l 28 8) : Int), .int .u64 ((nb l 36 8) : Int), .int .u64 ((nb l 44 8) : Int)] 27))
  go_enter Try.func24, Try.ntmps24
  go_upto_region 4 with (go_at_call 60; refine (unhide H60 _ (by repeat' (first | exact Fr.refl _ _ | apply Fr.alloc)) _ (by decide) (by decide)).mono ?_; rintro e w' ⟨rfl, rfl⟩)
  have e1 : (w.alloc (.cells #[.int .u64 0, .int .u64 0, .int .u64 0, .int .u64 0, .int .u64 0, .int .u64 0] 27)).heap.size = w.heap.size + 1 := by simp
  rw [e1] at hh
  clear e1
  generalize (w.alloc (.cells #[.int .u64 0, .int .u64 0, .int .u64 0, .int .u64 0, .int .u64 0, .int .u64 0] 27)).alloc (.cells #[.int .u64 ((nb l 4 8) : Int), .int .u64 ((nb l 12 8) : Int), .int .u64 ((nb l 20 8) : Int), .int .u64 ((nb l 28 8) : Int), .int .u64 ((nb l 36 8) : Int), .int .u64 ((nb l 44 8) : Int)] 27) = w3 at *
  generalize w.heap.size + 1 = b at *
  generalize hp : w.heap.size = p at *
  go_wp2_with (first | (refine wl_loadR 27 6 _ Try.underlying27 (by kernel_rfl) (.tmp 4) rfl rfl b rfl _ 27 hh rfl ?_) | (refine wl_storeR 27 6 (by kernel_rfl) _ _ rfl rfl p rfl _ rfl _ 27 hz4 rfl rfl (by simp [Value.oneCell']) ?_; intro w5 hw5; have hz5 := setRow_at hz4 #[.int .u64 0, .int .u64 0, .int .u64 0, .int .u64 0, .int .u64 0, .int .u64 0]; rw [← hw5] at hz5; have F5 := hide ((unhide F4).trans (hw5 ▸ Fr.setRow_one w4 _ rfl : Fr (fun k => k = p) w4 w5) (fun k hk e => by omega)); clear hw5) | (go_at_call 14; refine (rputSuper_no w3 _ _ _ _ _ _ (unhide HS)).mono ?_; rintro e w4 ⟨rfl, f4⟩; have hz4 := (f4.block _ (lt_of_heap hz3) id).trans hz3; have F4 := hide ((unhide F3).trans f4 (fun _ _ h => h)); have LD5 := hide (ldk hh f4)) | (refine wl_loadR 27 6 _ Try.underlying27 (by kernel_rfl) (.tmp 4) rfl rfl b rfl _ 27 (unhide LD5) rfl ?_))
  refine ret_ceR 27 6 _ Try.underlying27 (by kernel_rfl) p _ 27 rfl rfl rfl hz5 rfl ?_
  exact ⟨rfl, unhide F5⟩
set_option maxHeartbeats 8000000 in
set_option maxRecDepth 100000 in
theorem rgetSuper_ne (w : World) (v : Value) (l : List UInt8) (h : Rd w v l) (hl : l.length = 384) (hs : sbB (sn l 0) (sn l 1) (sn l 2) (sn l 3) (sn l 4) (sn l 5) = true) (hq : suB (sn l 0) (sn l 1) (sn l 2) (sn l 3) (sn l 4) (sn l 5) ≠ l) : Calls Try.prog 24 #[v] w fun e w' => e = .returned (.tuple #[.agg #[.int .u64 0, .int .u64 0, .int .u64 0, .int .u64 0, .int .u64 0, .int .u64 0], .int .i64 81]) ∧ Fr (fun _ => False) w w' := by
  rw [sn_nb l 0 (by omega), sn_nb l 1 (by omega), sn_nb l 2 (by omega), sn_nb l 3 (by omega), sn_nb l 4 (by omega), sn_nb l 5 (by omega)] at hs hq
  simp only [Nat.reduceMul, Nat.reduceAdd] at hs hq
  obtain ⟨ao, cap, rfl⟩ := h.shape
  obtain ⟨B0, o0, rfl, -, hnc, hcm, hcell⟩ := h.lits (by omega)
  have hB0 : B0 < w.heap.size := World.block_lt_of_cell? w _ (hcell 0 (by omega))
  rw [hl] at h hnc ⊢
  have HL := hide hl
  have HR := hide h
  have H60 := hide (fun W (f : Fr (fun _ => False) w W) (pz : Int) (h0 : 0 ≤ pz) (h1 : pz + 8 ≤ 384) => rnumber_any W B0 o0 384 cap l pz.toNat 8 8 pz rfl (by omega) hl.symm hnc hcm (by omega) (by omega) (by omega) (fun j hj => by rw [f.cell hB0 id]; exact hcell j hj))
  have HS := hide hs
  have HQ := hide hq
  have HE : Hid (¬ (str (suB (nb l 4 8) (nb l 12 8) (nb l 20 8) (nb l 28 8) (nb l 36 8) (nb l 44 8)) = str l)) := hide (fun e => hq (str_inj e))
  clear h hl hs hcm hcell hB0 hq
  have hz3 := (Below.heap_alloc (w.alloc (.cells #[.int .u64 0, .int .u64 0, .int .u64 0, .int .u64 0, .int .u64 0, .int .u64 0] 27)) (.cells #[.int .u64 ((nb l 4 8) : Int), .int .u64 ((nb l 12 8) : Int), .int .u64 ((nb l 20 8) : Int), .int .u64 ((nb l 28 8) : Int), .int .u64 ((nb l 36 8) : Int), .int .u64 ((nb l 44 8) : Int)] 27) w.heap.size (by simp)).trans (heap_alloc_new w (.cells #[.int .u64 0, .int .u64 0, .int .u64 0, .int .u64 0, .int .u64 0, .int .u64 0] 27))
  have hh := heap_alloc_new (w.alloc (.cells #[.int .u64 0, .int .u64 0, .int .u64 0, .int .u64 0, .int .u64 0, .int .u64 0] 27)) (.cells #[.int .u64 ((nb l 4 8) : Int), .int .u64 ((nb l 12 8) : Int), .int .u64 ((nb l 20 8) : Int), .int .u64 ((nb l 28 8) : Int), .int .u64 ((nb l 36 8) : Int), .int .u64 ((nb l 44 8) : Int)] 27)
  have F3 := hide (((Fr.refl (fun _ => False) w).alloc (.cells #[.int .u64 0, .int .u64 0, .int .u64 0, .int .u64 0, .int .u64 0, .int .u64 0] 27)).alloc (.cells #[.int .u64 ((nb l 4 8) : Int), .int .u64 ((nb l 12 8) : Int), .int .u64 ((nb l 20 8) : Int), .int .u64 ((nb l 28 8) : Int), .int .u64 ((nb l 36 8) : Int), .int .u64 ((nb l 44 8) : Int)] 27))
  go_enter Try.func24, Try.ntmps24
  go_upto_region 4 with (go_at_call 60; refine (unhide H60 _ (by repeat' (first | exact Fr.refl _ _ | apply Fr.alloc)) _ (by decide) (by decide)).mono ?_; rintro e w' ⟨rfl, rfl⟩)
  have e1 : (w.alloc (.cells #[.int .u64 0, .int .u64 0, .int .u64 0, .int .u64 0, .int .u64 0, .int .u64 0] 27)).heap.size = w.heap.size + 1 := by simp
  rw [e1] at hh
  clear e1
  generalize (w.alloc (.cells #[.int .u64 0, .int .u64 0, .int .u64 0, .int .u64 0, .int .u64 0, .int .u64 0] 27)).alloc (.cells #[.int .u64 ((nb l 4 8) : Int), .int .u64 ((nb l 12 8) : Int), .int .u64 ((nb l 20 8) : Int), .int .u64 ((nb l 28 8) : Int), .int .u64 ((nb l 36 8) : Int), .int .u64 ((nb l 44 8) : Int)] 27) = w3 at *
  generalize w.heap.size + 1 = b at *
  generalize hp : w.heap.size = p at *
  go_wp2_with (first | (refine wl_loadR 27 6 _ Try.underlying27 (by kernel_rfl) (.tmp 4) rfl rfl b rfl _ 27 hh rfl ?_) | (refine wl_storeR 27 6 (by kernel_rfl) _ _ rfl rfl p rfl _ rfl _ 27 hz4 rfl rfl (by simp [Value.oneCell']) ?_; intro w5 hw5; have hz5 := setRow_at hz4 #[.int .u64 0, .int .u64 0, .int .u64 0, .int .u64 0, .int .u64 0, .int .u64 0]; rw [← hw5] at hz5; have F5 := hide ((unhide F4).trans (hw5 ▸ Fr.setRow_one w4 _ rfl : Fr (fun k => k = p) w4 w5) (fun k hk e => by omega)); clear hw5) | (go_at_call 14; refine (rputSuper_ok w3 _ _ _ _ _ _ (unhide HS)).mono ?_; rintro e w4 ⟨v4, rfl, hv4⟩; have f4 := hv4.fr; have hz4 := (f4.block _ (lt_of_heap hz3) id).trans hz3; have F4 := hide ((unhide F3).trans f4 (fun _ _ h => h)); have LD5 := hide (ldk hh f4); have hle := suB_length (nb l 4 8) (nb l 12 8) (nb l 20 8) (nb l 28 8) (nb l 36 8) (nb l 44 8); obtain ⟨a4, c4, rfl⟩ := hv4.shape; have k1 := conv_rd (P := Try.prog) hv4.rd 23 9 5 Try.underlying23 Try.underlying5 Try.underlying9; rw [hle] at k1; have k2 := conv_rd (P := Try.prog) ((unhide HR).kept (unhide F4) (fun _ _ h => h)) 23 9 5 Try.underlying23 Try.underlying5 Try.underlying9; rw [hle]; have he : ((str (suB (nb l 4 8) (nb l 12 8) (nb l 20 8) (nb l 28 8) (nb l 36 8) (nb l 44 8))).toList == (str l).toList) = false := (str_eq _ _).trans (decide_eq_false (fun e => unhide HE (by rw [e]))); clear hv4 f4 hle) | (refine wl_loadR 27 6 _ Try.underlying27 (by kernel_rfl) (.tmp 4) rfl rfl b rfl _ 27 (unhide LD5) rfl ?_))
  refine ret_ceR 27 6 _ Try.underlying27 (by kernel_rfl) p _ 27 rfl rfl rfl hz5 rfl ?_
  exact ⟨rfl, unhide F5⟩
set_option maxHeartbeats 8000000 in
set_option maxRecDepth 100000 in
theorem rgetSuper_ok (w : World) (v : Value) (l : List UInt8) (h : Rd w v l) (hl : l.length = 384) (hs : sbB (sn l 0) (sn l 1) (sn l 2) (sn l 3) (sn l 4) (sn l 5) = true) (hq : suB (sn l 0) (sn l 1) (sn l 2) (sn l 3) (sn l 4) (sn l 5) = l) : Calls Try.prog 24 #[v] w fun e w' => e = .returned (.tuple #[.agg #[.int .u64 (sn l 0 : Int), .int .u64 (sn l 1 : Int), .int .u64 (sn l 2 : Int), .int .u64 (sn l 3 : Int), .int .u64 (sn l 4 : Int), .int .u64 (sn l 5 : Int)], .int .i64 0]) ∧ Fr (fun _ => False) w w' := by
  rw [sn_nb l 0 (by omega), sn_nb l 1 (by omega), sn_nb l 2 (by omega), sn_nb l 3 (by omega), sn_nb l 4 (by omega), sn_nb l 5 (by omega)] at hs hq ⊢
  simp only [Nat.reduceMul, Nat.reduceAdd] at hs hq ⊢
  obtain ⟨ao, cap, rfl⟩ := h.shape
  obtain ⟨B0, o0, rfl, -, hnc, hcm, hcell⟩ := h.lits (by omega)
  have hB0 : B0 < w.heap.size := World.block_lt_of_cell? w _ (hcell 0 (by omega))
  rw [hl] at h hnc ⊢
  have HL := hide hl
  have HR := hide h
  have H60 := hide (fun W (f : Fr (fun _ => False) w W) (pz : Int) (h0 : 0 ≤ pz) (h1 : pz + 8 ≤ 384) => rnumber_any W B0 o0 384 cap l pz.toNat 8 8 pz rfl (by omega) hl.symm hnc hcm (by omega) (by omega) (by omega) (fun j hj => by rw [f.cell hB0 id]; exact hcell j hj))
  have HS := hide hs
  have HQ := hide hq
  clear h hl hs hcm hcell hB0 hq
  have hz3 := (Below.heap_alloc (w.alloc (.cells #[.int .u64 0, .int .u64 0, .int .u64 0, .int .u64 0, .int .u64 0, .int .u64 0] 27)) (.cells #[.int .u64 ((nb l 4 8) : Int), .int .u64 ((nb l 12 8) : Int), .int .u64 ((nb l 20 8) : Int), .int .u64 ((nb l 28 8) : Int), .int .u64 ((nb l 36 8) : Int), .int .u64 ((nb l 44 8) : Int)] 27) w.heap.size (by simp)).trans (heap_alloc_new w (.cells #[.int .u64 0, .int .u64 0, .int .u64 0, .int .u64 0, .int .u64 0, .int .u64 0] 27))
  have hh := heap_alloc_new (w.alloc (.cells #[.int .u64 0, .int .u64 0, .int .u64 0, .int .u64 0, .int .u64 0, .int .u64 0] 27)) (.cells #[.int .u64 ((nb l 4 8) : Int), .int .u64 ((nb l 12 8) : Int), .int .u64 ((nb l 20 8) : Int), .int .u64 ((nb l 28 8) : Int), .int .u64 ((nb l 36 8) : Int), .int .u64 ((nb l 44 8) : Int)] 27)
  have F3 := hide (((Fr.refl (fun _ => False) w).alloc (.cells #[.int .u64 0, .int .u64 0, .int .u64 0, .int .u64 0, .int .u64 0, .int .u64 0] 27)).alloc (.cells #[.int .u64 ((nb l 4 8) : Int), .int .u64 ((nb l 12 8) : Int), .int .u64 ((nb l 20 8) : Int), .int .u64 ((nb l 28 8) : Int), .int .u64 ((nb l 36 8) : Int), .int .u64 ((nb l 44 8) : Int)] 27))
  go_enter Try.func24, Try.ntmps24
  go_upto_region 4 with (go_at_call 60; refine (unhide H60 _ (by repeat' (first | exact Fr.refl _ _ | apply Fr.alloc)) _ (by decide) (by decide)).mono ?_; rintro e w' ⟨rfl, rfl⟩)
  have e1 : (w.alloc (.cells #[.int .u64 0, .int .u64 0, .int .u64 0, .int .u64 0, .int .u64 0, .int .u64 0] 27)).heap.size = w.heap.size + 1 := by simp
  rw [e1] at hh
  clear e1
  generalize (w.alloc (.cells #[.int .u64 0, .int .u64 0, .int .u64 0, .int .u64 0, .int .u64 0, .int .u64 0] 27)).alloc (.cells #[.int .u64 ((nb l 4 8) : Int), .int .u64 ((nb l 12 8) : Int), .int .u64 ((nb l 20 8) : Int), .int .u64 ((nb l 28 8) : Int), .int .u64 ((nb l 36 8) : Int), .int .u64 ((nb l 44 8) : Int)] 27) = w3 at *
  generalize w.heap.size + 1 = b at *
  generalize hp : w.heap.size = p at *
  go_wp2_with (first | (refine wl_loadR 27 6 _ Try.underlying27 (by kernel_rfl) (.tmp 4) rfl rfl b rfl _ 27 hh rfl ?_) | (refine wl_storeR 27 6 (by kernel_rfl) _ _ rfl rfl p rfl _ rfl _ 27 hz4 rfl rfl (by simp [Value.oneCell']) ?_; intro w5 hw5; have hz5 := setRow_at hz4 #[.int .u64 ((nb l 4 8) : Int), .int .u64 ((nb l 12 8) : Int), .int .u64 ((nb l 20 8) : Int), .int .u64 ((nb l 28 8) : Int), .int .u64 ((nb l 36 8) : Int), .int .u64 ((nb l 44 8) : Int)]; rw [← hw5] at hz5; have F5 := hide ((unhide F4).trans (hw5 ▸ Fr.setRow_one w4 _ rfl : Fr (fun k => k = p) w4 w5) (fun k hk e => by omega)); clear hw5) | (go_at_call 14; refine (rputSuper_ok w3 _ _ _ _ _ _ (unhide HS)).mono ?_; rintro e w4 ⟨v4, rfl, hv4⟩; rw [unhide HQ] at hv4; have f4 := hv4.fr; have hz4 := (f4.block _ (lt_of_heap hz3) id).trans hz3; have F4 := hide ((unhide F3).trans f4 (fun _ _ h => h)); have LD5 := hide (ldk hh f4); have hle := unhide HL; obtain ⟨a4, c4, rfl⟩ := hv4.shape; have k1 := conv_rd (P := Try.prog) hv4.rd 23 9 5 Try.underlying23 Try.underlying5 Try.underlying9; rw [hle] at k1; have k2 := conv_rd (P := Try.prog) ((unhide HR).kept (unhide F4) (fun _ _ h => h)) 23 9 5 Try.underlying23 Try.underlying5 Try.underlying9; rw [hle]; clear hv4 f4 hle) | (refine wl_loadR 27 6 _ Try.underlying27 (by kernel_rfl) (.tmp 4) rfl rfl b rfl _ 27 (unhide LD5) rfl ?_))
  refine ret_ceR 27 6 _ Try.underlying27 (by kernel_rfl) p _ 27 rfl rfl rfl hz5 rfl ?_
  exact ⟨rfl, unhide F5⟩
end Go.Proofs.Ytgodlfoidjeekaa

namespace Go.Proofs.Ytgodlfoidjeekaa
set_option linter.unusedVariables false
set_option linter.unusedSimpArgs false
open Go.RowKit Go.Lib
set_option linter.unusedVariables false
set_option linter.unusedSimpArgs false

attribute [local go_sem ↓] Go.wp_at_zero Go.wp_at_succ

set_option maxHeartbeats 8000000 in
set_option maxRecDepth 100000 in
theorem sameEntry_any (w : World) (b s p l m q b' s' p' l' m' q' : Int) (ao bo : Option Addr) (ac bc : Nat) (L M : List UInt8) (hL : Rd w (.slice ao L.length ac) L) (hM : Rd w (.slice bo M.length bc) M) : Calls Try.prog 27 #[.agg #[.int .u64 b, .int .u64 s, .int .u64 p, .int .u64 l, .int .i64 m, .int .i64 q, .slice ao L.length ac], .agg #[.int .u64 b', .int .u64 s', .int .u64 p', .int .u64 l', .int .i64 m', .int .i64 q', .slice bo M.length bc]] w fun e w' => e = .returned (.bool (decide (b = b') && decide (s = s') && decide (p = p') && decide (l = l') && decide (m = m') && decide (q = q') && decide (L = M))) ∧ Fr (fun _ => False) w w' := by
  have HL := hide hL
  have HM := hide hM
  clear hL hM
  by_cases h0 : b = b'
  case neg =>
    have d0 : (b == b') = false := by simpa using h0
    go_enter Try.func27, Try.ntmps27
    go_wp2_with fail
    go_ret
    exact ⟨by simp [h0], by repeat' (first | exact Fr.refl _ _ | apply Fr.alloc)⟩
  subst h0
  by_cases h1 : s = s'
  case neg =>
    have d1 : (s == s') = false := by simpa using h1
    go_enter Try.func27, Try.ntmps27
    go_wp2_with fail
    go_ret
    exact ⟨by simp [h1], by repeat' (first | exact Fr.refl _ _ | apply Fr.alloc)⟩
  subst h1
  by_cases h2 : p = p'
  case neg =>
    have d2 : (p == p') = false := by simpa using h2
    go_enter Try.func27, Try.ntmps27
    go_wp2_with fail
    go_ret
    exact ⟨by simp [h2], by repeat' (first | exact Fr.refl _ _ | apply Fr.alloc)⟩
  subst h2
  by_cases h3 : l = l'
  case neg =>
    have d3 : (l == l') = false := by simpa using h3
    go_enter Try.func27, Try.ntmps27
    go_wp2_with fail
    go_ret
    exact ⟨by simp [h3], by repeat' (first | exact Fr.refl _ _ | apply Fr.alloc)⟩
  subst h3
  by_cases h4 : m = m'
  case neg =>
    have d4 : (m == m') = false := by simpa using h4
    go_enter Try.func27, Try.ntmps27
    go_wp2_with fail
    go_ret
    exact ⟨by simp [h4], by repeat' (first | exact Fr.refl _ _ | apply Fr.alloc)⟩
  subst h4
  by_cases h5 : q = q'
  case neg =>
    have d5 : (q == q') = false := by simpa using h5
    go_enter Try.func27, Try.ntmps27
    go_wp2_with fail
    go_ret
    exact ⟨by simp [h5], by repeat' (first | exact Fr.refl _ _ | apply Fr.alloc)⟩
  subst h5
  have F := hide (((Fr.refl (fun _ => False) w).alloc (.cells #[.int .u64 b, .int .u64 s, .int .u64 p, .int .u64 l, .int .i64 m, .int .i64 q, .slice ao L.length ac] 25)).alloc (.cells #[.int .u64 b, .int .u64 s, .int .u64 p, .int .u64 l, .int .i64 m, .int .i64 q, .slice bo M.length bc] 25))
  have k1 := conv_rd (P := Try.prog) ((unhide HL).kept (unhide F) (fun _ _ h => h)) 23 9 5 Try.underlying23 Try.underlying5 Try.underlying9
  have k2 := conv_rd (P := Try.prog) ((unhide HM).kept (unhide F) (fun _ _ h => h)) 23 9 5 Try.underlying23 Try.underlying5 Try.underlying9
  have he := str_eq L M
  go_enter Try.func27, Try.ntmps27
  go_wp2_with fail
  go_ret
  exact ⟨by simp, unhide F⟩
end Go.Proofs.Ytgodlfoidjeekaa

namespace Go.Proofs.Ytgodlfoidjeekaa
set_option linter.unusedVariables false
set_option linter.unusedSimpArgs false
open Go.RowKit Go.Lib
set_option linter.unusedVariables false
set_option linter.unusedSimpArgs false

attribute [local go_sem ↓] Go.wp_at_zero Go.wp_at_succ

theorem RdP.get {w W : World} {v : Value} {ps : List (Int × List UInt8)} (h : RdP w v ps) (f : Fr (fun _ => False) w W) (j : Nat) (hj : j < ps.length) : ∃ B o cap x, v = .slice (some ⟨B, o, none⟩) ps.length cap ∧ ps.length ≤ cap ∧ W.cell? ⟨B, o + j * 2, none⟩ = some (.int .i64 (ps[j]).1) ∧ W.cell? ⟨B, o + j * 2 + 1, none⟩ = some x ∧ Rd W x (ps[j]).2 := by
  obtain ⟨ao, cap, rfl⟩ := h.shape
  obtain ⟨B, o, rfl, h1, h2, h3⟩ := h.lits (by omega)
  obtain ⟨c0, x, c1, hx⟩ := h3 j hj
  have hB : B < w.heap.size := World.block_lt_of_cell? w _ c0
  exact ⟨B, o, cap, x, rfl, h1, by rw [f.cell hB id]; exact c0, by rw [f.cell hB id]; exact c1, hx.kept f (fun _ _ h => h)⟩
set_option maxHeartbeats 8000000 in
set_option maxRecDepth 100000 in
theorem same_any (w : World) (v u : Value) (ls ms : List (Int × List UInt8)) (h1 : RdP w v ls) (h2 : RdP w u ms) (hl : ls.length ≤ 100000) :
    Calls Try.prog 28 #[v, u] w fun e w' => e = .returned (.bool (decide (ls = ms))) ∧ Fr (fun _ => False) w w' := by
  have H1 := hide h1
  have H2 := hide h2
  obtain ⟨ao, ac, rfl⟩ := h1.shape
  obtain ⟨bo, bc, rfl⟩ := h2.shape
  clear h1 h2
  by_cases he : ls.length = ms.length
  · rw [← he] at H2 ⊢
    have HE := hide he
    clear he
    obtain ⟨n, hn⟩ : ∃ n, n = ls.length := ⟨_, rfl⟩
    rw [← hn] at H1 H2 hl ⊢
    have HN := hide hn
    clear hn
    go_enter Try.func28, Try.ntmps28
    go_wp2_with fail
    go_loopw [5] (fun x w' => ∃ i : Nat, i ≤ n ∧ x = .int .i64 (i : Int) ∧ ls.take i = ms.take i ∧ Fr (fun _ => False) w w') (fun x _ => n - (intOf x).toNat)
    case atStart => exact ⟨0, by omega, rfl, by simp, Fr.refl _ _⟩
    case round =>
      obtain ⟨i, hi, rfl, ht, hf⟩ := hrel
      by_cases hlt : i < n
      · have i1 : i < ls.length := by have := unhide HN; omega
        have i2 : i < ms.length := by have := unhide HN; have := unhide HE; omega
        obtain ⟨b1, o1, cap1, x1, y1, q1, a1, c1, r1⟩ := (unhide H1).get hf i i1
        obtain ⟨b2, o2, cap2, x2, y2, q2, a2, c2, r2⟩ := (unhide H2).get hf i i2
        simp at y1 y2
        obtain ⟨rfl, -, rfl⟩ := y1
        obtain ⟨rfl, -, rfl⟩ := y2
        have g1 : i < ac := by omega
        have g2 : i < bc := by omega
        have k1 := fun j => conv_rd (P := Try.prog) (r1.kept (Fr.ofDrewN (S := fun _ => False) wr j) (fun _ _ h => h)) 23 9 5 Try.underlying23 Try.underlying5 Try.underlying9
        have k2 := fun j => conv_rd (P := Try.prog) (r2.kept (Fr.ofDrewN (S := fun _ => False) wr j) (fun _ _ h => h)) 23 9 5 Try.underlying23 Try.underlying5 Try.underlying9
        obtain ⟨s1, e1, w1, rfl⟩ : ∃ ao n c, x1 = .slice ao n c := by obtain ⟨ao, c, e⟩ := r1.shape; exact ⟨ao, _, c, e⟩
        obtain ⟨s2, e2, w2, rfl⟩ : ∃ ao n c, x2 = .slice ao n c := by obtain ⟨ao, c, e⟩ := r2.shape; exact ⟨ao, _, c, e⟩
        have HT := hide ht
        have Hf := hide hf
        have T1 := hide (List.take_succ_eq_append_getElem i1)
        have T2 := hide (List.take_succ_eq_append_getElem i2)
        have HG := hide (show ls = ms → ls[i] = ms[i] by rintro rfl; rfl)
        generalize ls[i] = li at *
        generalize ms[i] = mi at *
        obtain ⟨z1, t1⟩ := li
        obtain ⟨z2, t2⟩ := mi
        simp only at a1 a2 k1 k2 r1 r2
        have hs := str_eq t1 t2
        clear ht hf r1 r2 q1 q2 i1 i2
        by_cases hz : z1 = z2
        · subst hz
          by_cases hd : t1 = t2
          · have hb : ((str t1).toList == (str t2).toList) = true := by rw [hs]; simpa using hd
            have HD := hide hd
            clear hs hd
            generalize str t1 = s1' at *
            generalize str t2 = s2' at *
            go_wp2_with fail
            go_quiet (fail)
            go_wp2_with fail
            go_roundw
            case rel => exact ⟨i + 1, by omega, by go_num, by rw [unhide T1, unhide T2, unhide HT, unhide HD], (unhide Hf).drewN _⟩
            case measure => simp [intOf]; omega
          · have hb : ((str t1).toList == (str t2).toList) = false := by rw [hs]; simpa using hd
            have HD := hide hd
            clear hs hd
            generalize str t1 = s1' at *
            generalize str t2 = s2' at *
            go_wp2_with fail
            go_quiet (fail)
            go_wp2_with fail
            go_ret
            have e : decide (ls = ms) = false := by
              simp only [decide_eq_false_iff_not]
              exact fun h => unhide HD (by have := unhide HG h; simpa using this)
            rw [e]
            exact ⟨rfl, (unhide Hf).drewN _⟩
        · have hb : (z1 == z2) = false := by simpa using hz
          have HD := hide hz
          clear hs k1 k2
          go_wp2_with fail
          go_quiet (fail)
          go_wp2_with fail
          go_ret
          have e : decide (ls = ms) = false := by
            simp only [decide_eq_false_iff_not]
            exact fun h => unhide HD (by have := unhide HG h; simp at this; exact this.1)
          rw [e]
          exact ⟨rfl, (unhide Hf).drewN _⟩
      · have HT := hide ht
        have Hf := hide hf
        clear ht hf
        go_wp2_with fail
        go_ret
        have e : decide (ls = ms) = true := by
          simp only [decide_eq_true_eq]
          have h := unhide HT
          rwa [List.take_of_length_le (by have := unhide HN; omega), List.take_of_length_le (by have := unhide HN; have := unhide HE; omega)] at h
        rw [e]
        exact ⟨rfl, unhide Hf⟩
  · have e : decide (ls = ms) = false := by
      simp only [decide_eq_false_iff_not]
      rintro rfl
      exact he rfl
    rw [e]
    have hb : ((ls.length : Int) != (ms.length : Int)) = true := by
      simp only [bne_iff_ne, ne_eq]; omega
    clear he e
    go_enter Try.func28, Try.ntmps28
    go_wp2_with fail
    go_ret
    exact ⟨rfl, Fr.refl _ _⟩
end Go.Proofs.Ytgodlfoidjeekaa
