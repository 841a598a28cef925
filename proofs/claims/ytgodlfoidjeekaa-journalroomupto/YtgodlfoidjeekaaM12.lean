/-
  The document's PutSuper, PutEntry: further regions.
  The document's PutTx: its drawn region.
  The document's PutTx.
  JournalRoom.
  How arguments come in: bytes, puts; and what a bound on their bulk says.
  Acts that came in.
-/
import Derived.Test.YtgodlfoidjeekaaM11
import Derived.Test.YtgodlfoidjeekaaM07
import Derived.Test.YtgodlfoidjeekaaRows
import Derived.ProofKit
import Derived.OpenShut
import Derived.ChangeOld
import Derived.Below
import Derived.Deep.Slices
import Derived.Test.YtgodlfoidjeekaaM10
namespace Go.Proofs.Ytgodlfoidjeekaa
set_option linter.unusedVariables false
set_option linter.unusedSimpArgs false
open Go.RowKit Go.Lib
set_option linter.unusedVariables false
set_option linter.unusedSimpArgs false

attribute [local go_sem ↓] Go.wp_at_zero Go.wp_at_succ

theorem x_len23 {ρ : Operand → Value} {o : Oper} {w : World} {x : Operand} {ao : Option Addr} {n c : Nat} (ho : o.op = .call { callee := .builtin .len, args := #[x], argTypes := #[23] }) (hx : ρ x = .slice ao n c) : (execOp ρ o).run Try.prog w = .ok (.value (.int .i64 (n : Int))) w := by
  simp [execOp, ho, hx, go_sem]
set_option maxHeartbeats 8000000 in
set_option maxRecDepth 100000 in
theorem gr14_4 {W0 W : World} {p : Nat} {n2 n3 n4 n5 : Nat} {x0 x1 : Value} {v4 : Value} {l : List UInt8} {u0 u2 u3 u5 u6 u7 u8 u9 u10 u11 u12 u13 u14 u15 u16 u17 u18 u19 u20 u21 u22 u23 u24 u25 u26 u27 u28 u29 u30 u31 u32 u33 u34 u35 u36 u37 u38 u39 u40 u41 u42 u43 u44 u45 u46 u47 u48 u49 u50 u51 u52 u53 u54 u55 u56 u57 u58 u59 u60 u61 u62 u63 u64 u65 : Value} {Q : Exit → Act → World → Prop} (hN : Nb W0 W v4 l) (hp : W.heap[p]? = some (.cells #[x0, x1, .int .u64 (n2 : Int), .int .u64 (n3 : Int), .int .u64 (n4 : Int), .int .u64 (n5 : Int)] 27 (0, 0))) (hn2 : n2 < 18446744073709551616) (hn3 : n3 < 18446744073709551616) (hl : l.length ≤ 300)
    (hQ : ∀ (y51 y52 y53 y54 y55 y56 y57 : Value) (v' : Value) (W' : World), Nb W0 W' v' ((l ++ be 8 n2) ++ be 8 n3) → W'.heap[p]? = some (.cells #[x0, x1, .int .u64 (n2 : Int), .int .u64 (n3 : Int), .int .u64 (n4 : Int), .int .u64 (n5 : Int)] 27 (0, 0)) → W.heap.size ≤ W'.heap.size → Q .normal ⟨#[u0, .pointer (some ⟨p, 0, none⟩), u2, u3, v', u5, u6, u7, u8, u9, u10, u11, u12, u13, u14, u15, u16, u17, u18, u19, u20, u21, u22, u23, u24, u25, u26, u27, u28, u29, u30, u31, u32, u33, u34, u35, u36, u37, u38, u39, u40, u41, u42, u43, u44, u45, u46, u47, u48, u49, u50, y51, y52, y53, y54, y55, y56, y57, u58, u59, u60, u61, u62, u63, u64, u65], []⟩ W') : (rgF Try.f14 4).wp Try.prog Q ⟨#[u0, .pointer (some ⟨p, 0, none⟩), u2, u3, v4, u5, u6, u7, u8, u9, u10, u11, u12, u13, u14, u15, u16, u17, u18, u19, u20, u21, u22, u23, u24, u25, u26, u27, u28, u29, u30, u31, u32, u33, u34, u35, u36, u37, u38, u39, u40, u41, u42, u43, u44, u45, u46, u47, u48, u49, u50, u51, u52, u53, u54, u55, u56, u57, u58, u59, u60, u61, u62, u63, u64, u65], []⟩ W := by
  have HQ := hide hQ
  clear hQ
  conv => arg 2; whnf
  refine wp_nm ?_
  intro a0 hA
  have s1 : a0.tmps.getD 1 undef = .pointer (some ⟨p, 0, none⟩) := by rw [hA]; rfl
  have s4 : a0.tmps.getD 4 undef = v4 := by rw [hA]; rfl
  have hsz : a0.tmps.size = 66 := by rw [hA]; rfl
  have hdf : a0.defers = [] := by rw [hA]
  refine wp_region_chainA (by kernel_rfl) (by kernel_rfl) (by decide +kernel) (by rw [hsz]; decide +kernel) (fun w w' => RY (fun b => v4.ownBlock = some b ∨ W.heap.size ≤ b) w w') (RY.of_fr (Fr.refl _ _).drew) (fun _ _ _ => RY.trans) (Tw [KV.any, KV.eq (.pointer (some ⟨p, 2, none⟩)), KV.eq (.int .u64 (n2 : Int)), KV.any, KV.eq (.pointer (some ⟨p, 3, none⟩)), KV.eq (.int .u64 (n3 : Int)), KV.any, KV.any]) (Tw.mono _) [0, 3, 6, 7] (by decide) (by decide) (fun k i j h1 h2 => ?cp) (StC (fun b => v4.ownBlock = some b) W [some (4, l), some (51, l), some (54, (l ++ be 8 n2)), some (57, ((l ++ be 8 n2) ++ be 8 n3)), some (4, ((l ++ be 8 n2) ++ be 8 n3))]) ?st0 ?steps ?done
  case cp =>
    match k, h1, h2 with
    | 0, h1, h2 => simp at h1 h2; subst h1; subst h2; exact .one rfl (by kernel_rfl)
    | 1, h1, h2 => simp at h1 h2; subst h1; subst h2; exact .one rfl (by kernel_rfl)
    | 2, h1, h2 => simp at h1 h2; subst h1; subst h2; exact .one rfl (by kernel_rfl)
    | 3, h1, h2 => simp at h2
    | k + 4, h1, h2 => simp at h2
  case st0 =>
    intro s l' e
    simp at e
    obtain ⟨rfl, rfl⟩ := e
    rw [s4]
    exact hN.nw.kept (Fr.refl _ _).drew
  case steps =>
    have HC2 : ∀ w', RY (fun b => v4.ownBlock = some b ∨ W.heap.size ≤ b) W w' → w'.cell? ⟨p, 2, none⟩ = some (.int .u64 (n2 : Int)) := fun w' f => by rw [cell_of_heap (f.oth _ _ _ _ (by decide) hp)]; rfl
    have HC3 : ∀ w', RY (fun b => v4.ownBlock = some b ∨ W.heap.size ≤ b) W w' → w'.cell? ⟨p, 3, none⟩ = some (.int .u64 (n3 : Int)) := fun w' f => by rw [cell_of_heap (f.oth _ _ _ _ (by decide) hp)]; rfl
    refine ⟨?_, ?_⟩
    · intro a' w' k hb hR hst hck hle hd
      obtain rfl : 0 = k := hck 0 rfl
      have hn := hst 4 _ rfl
      exact .inl ⟨wanted_none rfl, ch_move (by decide) (.inl rfl) rfl rfl (by rw [hb.size, hsz]; decide) rfl hn (fun _ _ => trivial)⟩
    refine ⟨?_, ?_⟩
    · intro a' w' k hb hR hst hck hle hd
      exact .inl ⟨wanted_none rfl, la_val _ _ (by decide) (x_f27_2 rfl ((hb.old 1 (by decide +kernel)).trans s1)) rfl (RY.of_fr (Fr.refl _ _)) (hst.put rfl (Fr.refl _ _))⟩
    refine ⟨?_, ?_⟩
    · intro a' w' k hb hR hst hck hle hd
      exact .inl ⟨wanted_none rfl, la_val _ _ (by decide) (x_load1 ld22 rfl (hd 1 (by kernel_rfl) 52 rfl) (HC2 w' hR)) rfl (RY.of_fr (Fr.refl _ _)) (hst.put rfl (Fr.refl _ _))⟩
    refine ⟨?_, ?_⟩
    · intro a' w' k hb hR hst hck hle hd
      obtain rfl : 1 = k := hck 1 rfl
      have hn := hst 51 _ rfl
      have e1 : a'.tmps.getD 53 undef = .int .u64 (n2 : Int) := hd 2 (by kernel_rfl) 53 rfl
      exact .inl ⟨wanted_none rfl, ch_put (by decide) rfl rfl rfl e1 rfl (.inr (.inr rfl)) (by first | omega | (simp only [List.length_append, be_length, List.length_replicate]; omega)) (by omega) rfl (by rw [hb.size, hsz]; decide) rfl hn (fun _ _ => trivial)⟩
    refine ⟨?_, ?_⟩
    · intro a' w' k hb hR hst hck hle hd
      exact .inl ⟨wanted_none rfl, la_val _ _ (by decide) (x_f27_3 rfl ((hb.old 1 (by decide +kernel)).trans s1)) rfl (RY.of_fr (Fr.refl _ _)) (hst.put rfl (Fr.refl _ _))⟩
    refine ⟨?_, ?_⟩
    · intro a' w' k hb hR hst hck hle hd
      exact .inl ⟨wanted_none rfl, la_val _ _ (by decide) (x_load1 ld22 rfl (hd 4 (by kernel_rfl) 55 rfl) (HC3 w' hR)) rfl (RY.of_fr (Fr.refl _ _)) (hst.put rfl (Fr.refl _ _))⟩
    refine ⟨?_, ?_⟩
    · intro a' w' k hb hR hst hck hle hd
      obtain rfl : 2 = k := hck 2 rfl
      have hn := hst 54 _ rfl
      have e1 : a'.tmps.getD 56 undef = .int .u64 (n3 : Int) := hd 5 (by kernel_rfl) 56 rfl
      exact .inl ⟨wanted_none rfl, ch_put (by decide) rfl rfl rfl e1 rfl (.inr (.inr rfl)) (by first | omega | (simp only [List.length_append, be_length, List.length_replicate]; omega)) (by omega) rfl (by rw [hb.size, hsz]; decide) rfl hn (fun _ _ => trivial)⟩
    refine ⟨?_, ?_⟩
    · intro a' w' k hb hR hst hck hle hd
      obtain rfl : 3 = k := hck 3 rfl
      have hn := hst 57 _ rfl
      exact .inl ⟨wanted_none rfl, ch_move (by decide) (.inr rfl) rfl rfl (by rw [hb.size, hsz]; decide) rfl hn (fun _ _ => trivial)⟩
    exact trivial
  case done =>
    intro a' w' hb hR hst hall
    have hn := hst 4 _ rfl
    have hfr := frame_eq (a := a') (vs := [u0, .pointer (some ⟨p, 0, none⟩), u2, u3, a'.tmps.getD 4 undef, u5, u6, u7, u8, u9, u10, u11, u12, u13, u14, u15, u16, u17, u18, u19, u20, u21, u22, u23, u24, u25, u26, u27, u28, u29, u30, u31, u32, u33, u34, u35, u36, u37, u38, u39, u40, u41, u42, u43, u44, u45, u46, u47, u48, u49, u50, a'.tmps.getD 51 undef, a'.tmps.getD 52 undef, a'.tmps.getD 53 undef, a'.tmps.getD 54 undef, a'.tmps.getD 55 undef, a'.tmps.getD 56 undef, a'.tmps.getD 57 undef, u58, u59, u60, u61, u62, u63, u64, u65]) (by rw [hb.size, hsz]; rfl) (by rw [hb.defers, hdf]) ⟨(hb.old 0 (by decide +kernel)).trans (by rw [hA]; rfl), (hb.old 1 (by decide +kernel)).trans (by rw [hA]; rfl), (hb.old 2 (by decide +kernel)).trans (by rw [hA]; rfl), (hb.old 3 (by decide +kernel)).trans (by rw [hA]; rfl), rfl, (hb.old 5 (by decide +kernel)).trans (by rw [hA]; rfl), (hb.old 6 (by decide +kernel)).trans (by rw [hA]; rfl), (hb.old 7 (by decide +kernel)).trans (by rw [hA]; rfl), (hb.old 8 (by decide +kernel)).trans (by rw [hA]; rfl), (hb.old 9 (by decide +kernel)).trans (by rw [hA]; rfl), (hb.old 10 (by decide +kernel)).trans (by rw [hA]; rfl), (hb.old 11 (by decide +kernel)).trans (by rw [hA]; rfl), (hb.old 12 (by decide +kernel)).trans (by rw [hA]; rfl), (hb.old 13 (by decide +kernel)).trans (by rw [hA]; rfl), (hb.old 14 (by decide +kernel)).trans (by rw [hA]; rfl), (hb.old 15 (by decide +kernel)).trans (by rw [hA]; rfl), (hb.old 16 (by decide +kernel)).trans (by rw [hA]; rfl), (hb.old 17 (by decide +kernel)).trans (by rw [hA]; rfl), (hb.old 18 (by decide +kernel)).trans (by rw [hA]; rfl), (hb.old 19 (by decide +kernel)).trans (by rw [hA]; rfl), (hb.old 20 (by decide +kernel)).trans (by rw [hA]; rfl), (hb.old 21 (by decide +kernel)).trans (by rw [hA]; rfl), (hb.old 22 (by decide +kernel)).trans (by rw [hA]; rfl), (hb.old 23 (by decide +kernel)).trans (by rw [hA]; rfl), (hb.old 24 (by decide +kernel)).trans (by rw [hA]; rfl), (hb.old 25 (by decide +kernel)).trans (by rw [hA]; rfl), (hb.old 26 (by decide +kernel)).trans (by rw [hA]; rfl), (hb.old 27 (by decide +kernel)).trans (by rw [hA]; rfl), (hb.old 28 (by decide +kernel)).trans (by rw [hA]; rfl), (hb.old 29 (by decide +kernel)).trans (by rw [hA]; rfl), (hb.old 30 (by decide +kernel)).trans (by rw [hA]; rfl), (hb.old 31 (by decide +kernel)).trans (by rw [hA]; rfl), (hb.old 32 (by decide +kernel)).trans (by rw [hA]; rfl), (hb.old 33 (by decide +kernel)).trans (by rw [hA]; rfl), (hb.old 34 (by decide +kernel)).trans (by rw [hA]; rfl), (hb.old 35 (by decide +kernel)).trans (by rw [hA]; rfl), (hb.old 36 (by decide +kernel)).trans (by rw [hA]; rfl), (hb.old 37 (by decide +kernel)).trans (by rw [hA]; rfl), (hb.old 38 (by decide +kernel)).trans (by rw [hA]; rfl), (hb.old 39 (by decide +kernel)).trans (by rw [hA]; rfl), (hb.old 40 (by decide +kernel)).trans (by rw [hA]; rfl), (hb.old 41 (by decide +kernel)).trans (by rw [hA]; rfl), (hb.old 42 (by decide +kernel)).trans (by rw [hA]; rfl), (hb.old 43 (by decide +kernel)).trans (by rw [hA]; rfl), (hb.old 44 (by decide +kernel)).trans (by rw [hA]; rfl), (hb.old 45 (by decide +kernel)).trans (by rw [hA]; rfl), (hb.old 46 (by decide +kernel)).trans (by rw [hA]; rfl), (hb.old 47 (by decide +kernel)).trans (by rw [hA]; rfl), (hb.old 48 (by decide +kernel)).trans (by rw [hA]; rfl), (hb.old 49 (by decide +kernel)).trans (by rw [hA]; rfl), (hb.old 50 (by decide +kernel)).trans (by rw [hA]; rfl), rfl, rfl, rfl, rfl, rfl, rfl, rfl, (hb.old 58 (by decide +kernel)).trans (by rw [hA]; rfl), (hb.old 59 (by decide +kernel)).trans (by rw [hA]; rfl), (hb.old 60 (by decide +kernel)).trans (by rw [hA]; rfl), (hb.old 61 (by decide +kernel)).trans (by rw [hA]; rfl), (hb.old 62 (by decide +kernel)).trans (by rw [hA]; rfl), (hb.old 63 (by decide +kernel)).trans (by rw [hA]; rfl), (hb.old 64 (by decide +kernel)).trans (by rw [hA]; rfl), (hb.old 65 (by decide +kernel)).trans (by rw [hA]; rfl), trivial⟩
    rw [hfr]
    exact unhide HQ _ _ _ _ _ _ _ _ w' (hN.then hn) (hR.oth _ _ _ _ (by decide) hp) hR.fr.size
set_option maxHeartbeats 8000000 in
set_option maxRecDepth 100000 in
theorem gr14_5 {W0 W : World} {p : Nat} {n2 n3 n4 n5 : Nat} {x0 x1 : Value} {v4 : Value} {l : List UInt8} {u0 u2 u3 u5 u6 u7 u8 u9 u10 u11 u12 u13 u14 u15 u16 u17 u18 u19 u20 u21 u22 u23 u24 u25 u26 u27 u28 u29 u30 u31 u32 u33 u34 u35 u36 u37 u38 u39 u40 u41 u42 u43 u44 u45 u46 u47 u48 u49 u50 u51 u52 u53 u54 u55 u56 u57 u58 u59 u60 u61 u62 u63 u64 u65 : Value} {Q : Exit → Act → World → Prop} (hN : Nb W0 W v4 l) (hp : W.heap[p]? = some (.cells #[x0, x1, .int .u64 (n2 : Int), .int .u64 (n3 : Int), .int .u64 (n4 : Int), .int .u64 (n5 : Int)] 27 (0, 0))) (hn4 : n4 < 18446744073709551616) (hn5 : n5 < 18446744073709551616) (hl : l.length ≤ 300)
    (hQ : ∀ (y58 y59 y60 y61 y62 y63 y64 y65 : Value) (v' : Value) (W' : World), Nb W0 W' v' (((l ++ be 8 n4) ++ be 8 n5) ++ List.replicate (384 - ((l ++ be 8 n4) ++ be 8 n5).length) 0) → W'.heap[p]? = some (.cells #[x0, x1, .int .u64 (n2 : Int), .int .u64 (n3 : Int), .int .u64 (n4 : Int), .int .u64 (n5 : Int)] 27 (0, 0)) → W.heap.size ≤ W'.heap.size → Q .normal ⟨#[u0, .pointer (some ⟨p, 0, none⟩), v', .int .i64 0, v4, u5, u6, u7, u8, u9, u10, u11, u12, u13, u14, u15, u16, u17, u18, u19, u20, u21, u22, u23, u24, u25, u26, u27, u28, u29, u30, u31, u32, u33, u34, u35, u36, u37, u38, u39, u40, u41, u42, u43, u44, u45, u46, u47, u48, u49, u50, u51, u52, u53, u54, u55, u56, u57, y58, y59, y60, y61, y62, y63, y64, y65], []⟩ W') : (rgF Try.f14 5).wp Try.prog Q ⟨#[u0, .pointer (some ⟨p, 0, none⟩), u2, u3, v4, u5, u6, u7, u8, u9, u10, u11, u12, u13, u14, u15, u16, u17, u18, u19, u20, u21, u22, u23, u24, u25, u26, u27, u28, u29, u30, u31, u32, u33, u34, u35, u36, u37, u38, u39, u40, u41, u42, u43, u44, u45, u46, u47, u48, u49, u50, u51, u52, u53, u54, u55, u56, u57, u58, u59, u60, u61, u62, u63, u64, u65], []⟩ W := by
  have HQ := hide hQ
  clear hQ
  conv => arg 2; whnf
  refine wp_nm ?_
  intro a0 hA
  have s1 : a0.tmps.getD 1 undef = .pointer (some ⟨p, 0, none⟩) := by rw [hA]; rfl
  have s4 : a0.tmps.getD 4 undef = v4 := by rw [hA]; rfl
  have hsz : a0.tmps.size = 66 := by rw [hA]; rfl
  have hdf : a0.defers = [] := by rw [hA]
  refine wp_region_chainA (by kernel_rfl) (by kernel_rfl) (by decide +kernel) (by rw [hsz]; decide +kernel) (fun w w' => RY (fun b => v4.ownBlock = some b ∨ W.heap.size ≤ b) w w') (RY.of_fr (Fr.refl _ _).drew) (fun _ _ _ => RY.trans) (Tw [KV.any, KV.eq (.pointer (some ⟨p, 4, none⟩)), KV.eq (.int .u64 (n4 : Int)), KV.any, KV.eq (.pointer (some ⟨p, 5, none⟩)), KV.eq (.int .u64 (n5 : Int)), KV.any, KV.any, KV.any, KV.eq (.int .i64 0)]) (Tw.mono _) [0, 3, 6, 7, 8] (by decide) (by decide) (fun k i j h1 h2 => ?cp) (StC (fun b => v4.ownBlock = some b) W [some (4, l), some (58, l), some (61, (l ++ be 8 n4)), some (64, ((l ++ be 8 n4) ++ be 8 n5)), some (65, (((l ++ be 8 n4) ++ be 8 n5) ++ List.replicate (384 - ((l ++ be 8 n4) ++ be 8 n5).length) 0)), some (2, (((l ++ be 8 n4) ++ be 8 n5) ++ List.replicate (384 - ((l ++ be 8 n4) ++ be 8 n5).length) 0))]) ?st0 ?steps ?done
  case cp =>
    match k, h1, h2 with
    | 0, h1, h2 => simp at h1 h2; subst h1; subst h2; exact .one rfl (by kernel_rfl)
    | 1, h1, h2 => simp at h1 h2; subst h1; subst h2; exact .one rfl (by kernel_rfl)
    | 2, h1, h2 => simp at h1 h2; subst h1; subst h2; exact .one rfl (by kernel_rfl)
    | 3, h1, h2 => simp at h1 h2; subst h1; subst h2; exact .one rfl (by kernel_rfl)
    | 4, h1, h2 => simp at h2
    | k + 5, h1, h2 => simp at h2
  case st0 =>
    intro s l' e
    simp at e
    obtain ⟨rfl, rfl⟩ := e
    rw [s4]
    exact hN.nw.kept (Fr.refl _ _).drew
  case steps =>
    have HC4 : ∀ w', RY (fun b => v4.ownBlock = some b ∨ W.heap.size ≤ b) W w' → w'.cell? ⟨p, 4, none⟩ = some (.int .u64 (n4 : Int)) := fun w' f => by rw [cell_of_heap (f.oth _ _ _ _ (by decide) hp)]; rfl
    have HC5 : ∀ w', RY (fun b => v4.ownBlock = some b ∨ W.heap.size ≤ b) W w' → w'.cell? ⟨p, 5, none⟩ = some (.int .u64 (n5 : Int)) := fun w' f => by rw [cell_of_heap (f.oth _ _ _ _ (by decide) hp)]; rfl
    refine ⟨?_, ?_⟩
    · intro a' w' k hb hR hst hck hle hd
      obtain rfl : 0 = k := hck 0 rfl
      have hn := hst 4 _ rfl
      exact .inl ⟨wanted_none rfl, ch_move (by decide) (.inl rfl) rfl rfl (by rw [hb.size, hsz]; decide) rfl hn (fun _ _ => trivial)⟩
    refine ⟨?_, ?_⟩
    · intro a' w' k hb hR hst hck hle hd
      exact .inl ⟨wanted_none rfl, la_val _ _ (by decide) (x_f27_4 rfl ((hb.old 1 (by decide +kernel)).trans s1)) rfl (RY.of_fr (Fr.refl _ _)) (hst.put rfl (Fr.refl _ _))⟩
    refine ⟨?_, ?_⟩
    · intro a' w' k hb hR hst hck hle hd
      exact .inl ⟨wanted_none rfl, la_val _ _ (by decide) (x_load1 ld22 rfl (hd 1 (by kernel_rfl) 59 rfl) (HC4 w' hR)) rfl (RY.of_fr (Fr.refl _ _)) (hst.put rfl (Fr.refl _ _))⟩
    refine ⟨?_, ?_⟩
    · intro a' w' k hb hR hst hck hle hd
      obtain rfl : 1 = k := hck 1 rfl
      have hn := hst 58 _ rfl
      have e1 : a'.tmps.getD 60 undef = .int .u64 (n4 : Int) := hd 2 (by kernel_rfl) 60 rfl
      exact .inl ⟨wanted_none rfl, ch_put (by decide) rfl rfl rfl e1 rfl (.inr (.inr rfl)) (by first | omega | (simp only [List.length_append, be_length, List.length_replicate]; omega)) (by omega) rfl (by rw [hb.size, hsz]; decide) rfl hn (fun _ _ => trivial)⟩
    refine ⟨?_, ?_⟩
    · intro a' w' k hb hR hst hck hle hd
      exact .inl ⟨wanted_none rfl, la_val _ _ (by decide) (x_f27_5 rfl ((hb.old 1 (by decide +kernel)).trans s1)) rfl (RY.of_fr (Fr.refl _ _)) (hst.put rfl (Fr.refl _ _))⟩
    refine ⟨?_, ?_⟩
    · intro a' w' k hb hR hst hck hle hd
      exact .inl ⟨wanted_none rfl, la_val _ _ (by decide) (x_load1 ld22 rfl (hd 4 (by kernel_rfl) 62 rfl) (HC5 w' hR)) rfl (RY.of_fr (Fr.refl _ _)) (hst.put rfl (Fr.refl _ _))⟩
    refine ⟨?_, ?_⟩
    · intro a' w' k hb hR hst hck hle hd
      obtain rfl : 2 = k := hck 2 rfl
      have hn := hst 61 _ rfl
      have e1 : a'.tmps.getD 63 undef = .int .u64 (n5 : Int) := hd 5 (by kernel_rfl) 63 rfl
      exact .inl ⟨wanted_none rfl, ch_put (by decide) rfl rfl rfl e1 rfl (.inr (.inr rfl)) (by first | omega | (simp only [List.length_append, be_length, List.length_replicate]; omega)) (by omega) rfl (by rw [hb.size, hsz]; decide) rfl hn (fun _ _ => trivial)⟩
    refine ⟨?_, ?_⟩
    · intro a' w' k hb hR hst hck hle hd
      obtain rfl : 3 = k := hck 3 rfl
      have hn := hst 64 _ rfl
      exact .inl ⟨wanted_none rfl, ch_filled (by decide) rfl rfl rfl (by first | omega | (simp only [List.length_append, be_length, List.length_replicate]; omega)) (by first | omega | (simp only [List.length_append, be_length, List.length_replicate]; omega)) rfl (by rw [hb.size, hsz]; decide) rfl hn (fun _ _ => trivial)⟩
    refine ⟨?_, ?_⟩
    · intro a' w' k hb hR hst hck hle hd
      obtain rfl : 4 = k := hck 4 rfl
      have hn := hst 65 _ rfl
      exact .inl ⟨wanted_none rfl, ch_move (by decide) (.inr rfl) rfl rfl (by rw [hb.size, hsz]; decide) rfl hn (fun _ _ => trivial)⟩
    refine ⟨?_, ?_⟩
    · intro a' w' k hb hR hst hck hle hd
      exact .inl ⟨wanted_none rfl, la_val _ _ (by decide) (x_assign rfl rfl) rfl (RY.of_fr (Fr.refl _ _)) (hst.put rfl (Fr.refl _ _))⟩
    exact trivial
  case done =>
    intro a' w' hb hR hst hall
    have hn := hst 2 _ rfl
    have hfr := frame_eq (a := a') (vs := [u0, .pointer (some ⟨p, 0, none⟩), a'.tmps.getD 2 undef, .int .i64 0, v4, u5, u6, u7, u8, u9, u10, u11, u12, u13, u14, u15, u16, u17, u18, u19, u20, u21, u22, u23, u24, u25, u26, u27, u28, u29, u30, u31, u32, u33, u34, u35, u36, u37, u38, u39, u40, u41, u42, u43, u44, u45, u46, u47, u48, u49, u50, u51, u52, u53, u54, u55, u56, u57, a'.tmps.getD 58 undef, a'.tmps.getD 59 undef, a'.tmps.getD 60 undef, a'.tmps.getD 61 undef, a'.tmps.getD 62 undef, a'.tmps.getD 63 undef, a'.tmps.getD 64 undef, a'.tmps.getD 65 undef]) (by rw [hb.size, hsz]; rfl) (by rw [hb.defers, hdf]) ⟨(hb.old 0 (by decide +kernel)).trans (by rw [hA]; rfl), (hb.old 1 (by decide +kernel)).trans (by rw [hA]; rfl), rfl, (hall 9 (by decide) 3 rfl), (hb.old 4 (by decide +kernel)).trans (by rw [hA]; rfl), (hb.old 5 (by decide +kernel)).trans (by rw [hA]; rfl), (hb.old 6 (by decide +kernel)).trans (by rw [hA]; rfl), (hb.old 7 (by decide +kernel)).trans (by rw [hA]; rfl), (hb.old 8 (by decide +kernel)).trans (by rw [hA]; rfl), (hb.old 9 (by decide +kernel)).trans (by rw [hA]; rfl), (hb.old 10 (by decide +kernel)).trans (by rw [hA]; rfl), (hb.old 11 (by decide +kernel)).trans (by rw [hA]; rfl), (hb.old 12 (by decide +kernel)).trans (by rw [hA]; rfl), (hb.old 13 (by decide +kernel)).trans (by rw [hA]; rfl), (hb.old 14 (by decide +kernel)).trans (by rw [hA]; rfl), (hb.old 15 (by decide +kernel)).trans (by rw [hA]; rfl), (hb.old 16 (by decide +kernel)).trans (by rw [hA]; rfl), (hb.old 17 (by decide +kernel)).trans (by rw [hA]; rfl), (hb.old 18 (by decide +kernel)).trans (by rw [hA]; rfl), (hb.old 19 (by decide +kernel)).trans (by rw [hA]; rfl), (hb.old 20 (by decide +kernel)).trans (by rw [hA]; rfl), (hb.old 21 (by decide +kernel)).trans (by rw [hA]; rfl), (hb.old 22 (by decide +kernel)).trans (by rw [hA]; rfl), (hb.old 23 (by decide +kernel)).trans (by rw [hA]; rfl), (hb.old 24 (by decide +kernel)).trans (by rw [hA]; rfl), (hb.old 25 (by decide +kernel)).trans (by rw [hA]; rfl), (hb.old 26 (by decide +kernel)).trans (by rw [hA]; rfl), (hb.old 27 (by decide +kernel)).trans (by rw [hA]; rfl), (hb.old 28 (by decide +kernel)).trans (by rw [hA]; rfl), (hb.old 29 (by decide +kernel)).trans (by rw [hA]; rfl), (hb.old 30 (by decide +kernel)).trans (by rw [hA]; rfl), (hb.old 31 (by decide +kernel)).trans (by rw [hA]; rfl), (hb.old 32 (by decide +kernel)).trans (by rw [hA]; rfl), (hb.old 33 (by decide +kernel)).trans (by rw [hA]; rfl), (hb.old 34 (by decide +kernel)).trans (by rw [hA]; rfl), (hb.old 35 (by decide +kernel)).trans (by rw [hA]; rfl), (hb.old 36 (by decide +kernel)).trans (by rw [hA]; rfl), (hb.old 37 (by decide +kernel)).trans (by rw [hA]; rfl), (hb.old 38 (by decide +kernel)).trans (by rw [hA]; rfl), (hb.old 39 (by decide +kernel)).trans (by rw [hA]; rfl), (hb.old 40 (by decide +kernel)).trans (by rw [hA]; rfl), (hb.old 41 (by decide +kernel)).trans (by rw [hA]; rfl), (hb.old 42 (by decide +kernel)).trans (by rw [hA]; rfl), (hb.old 43 (by decide +kernel)).trans (by rw [hA]; rfl), (hb.old 44 (by decide +kernel)).trans (by rw [hA]; rfl), (hb.old 45 (by decide +kernel)).trans (by rw [hA]; rfl), (hb.old 46 (by decide +kernel)).trans (by rw [hA]; rfl), (hb.old 47 (by decide +kernel)).trans (by rw [hA]; rfl), (hb.old 48 (by decide +kernel)).trans (by rw [hA]; rfl), (hb.old 49 (by decide +kernel)).trans (by rw [hA]; rfl), (hb.old 50 (by decide +kernel)).trans (by rw [hA]; rfl), (hb.old 51 (by decide +kernel)).trans (by rw [hA]; rfl), (hb.old 52 (by decide +kernel)).trans (by rw [hA]; rfl), (hb.old 53 (by decide +kernel)).trans (by rw [hA]; rfl), (hb.old 54 (by decide +kernel)).trans (by rw [hA]; rfl), (hb.old 55 (by decide +kernel)).trans (by rw [hA]; rfl), (hb.old 56 (by decide +kernel)).trans (by rw [hA]; rfl), (hb.old 57 (by decide +kernel)).trans (by rw [hA]; rfl), rfl, rfl, rfl, rfl, rfl, rfl, rfl, rfl, trivial⟩
    rw [hfr]
    exact unhide HQ _ _ _ _ _ _ _ _ _ w' (hN.then hn) (hR.oth _ _ _ _ (by decide) hp) hR.fr.size
set_option maxHeartbeats 8000000 in
set_option maxRecDepth 100000 in
theorem gr12_4 {W0 W : World} {p : Nat} {n2 n3 m4 m5 q xc : Nat} {x0 x1 : Value} {xo : Option Addr} {v4 : Value} {l : List UInt8} {u0 u2 u3 u5 u6 u7 u8 u9 u10 u11 u12 u13 u14 u15 u16 u17 u18 u19 u20 u21 u22 u23 u24 u25 u26 u27 u28 u29 u30 u31 u32 u33 u34 u35 u36 u37 u38 u39 u40 u41 u42 u43 u44 u45 u46 u47 u48 u49 u50 u51 u52 u53 u54 u55 u56 u57 u58 u59 u60 u61 u62 u63 u64 u65 u66 u67 u68 u69 u70 u71 u72 u73 u74 u75 u76 u77 u78 u79 u80 u81 u82 u83 u84 u85 u86 u87 u88 u89 u90 u91 u92 u93 u94 u95 u96 u97 u98 u99 u100 u101 u102 u103 u104 u105 u106 u107 : Value} {Q : Exit → Act → World → Prop} (hN : Nb W0 W v4 l) (hp : W.heap[p]? = some (.cells #[x0, x1, .int .u64 (n2 : Int), .int .u64 (n3 : Int), .int .i64 (m4 : Int), .int .i64 (m5 : Int), .slice xo q xc] 25 (0, 0))) (hn2 : n2 < 18446744073709551616) (hn3 : n3 < 18446744073709551616) (hl : l.length ≤ 300)
    (hQ : ∀ (y80 y81 y82 y83 y84 y85 y86 : Value) (v' : Value) (W' : World), Nb W0 W' v' ((l ++ be 8 n2) ++ be 8 n3) → W'.heap[p]? = some (.cells #[x0, x1, .int .u64 (n2 : Int), .int .u64 (n3 : Int), .int .i64 (m4 : Int), .int .i64 (m5 : Int), .slice xo q xc] 25 (0, 0)) → W.heap.size ≤ W'.heap.size → Q .normal ⟨#[u0, .pointer (some ⟨p, 0, none⟩), u2, u3, v', u5, u6, u7, u8, u9, u10, u11, u12, u13, u14, u15, u16, u17, u18, u19, u20, u21, u22, u23, u24, u25, u26, u27, u28, u29, u30, u31, u32, u33, u34, u35, u36, u37, u38, u39, u40, u41, u42, u43, u44, u45, u46, u47, u48, u49, u50, u51, u52, u53, u54, u55, u56, u57, u58, u59, u60, u61, u62, u63, u64, u65, u66, u67, u68, u69, u70, u71, u72, u73, u74, u75, u76, u77, u78, u79, y80, y81, y82, y83, y84, y85, y86, u87, u88, u89, u90, u91, u92, u93, u94, u95, u96, u97, u98, u99, u100, u101, u102, u103, u104, u105, u106, u107], []⟩ W') : (rgF Try.f12 4).wp Try.prog Q ⟨#[u0, .pointer (some ⟨p, 0, none⟩), u2, u3, v4, u5, u6, u7, u8, u9, u10, u11, u12, u13, u14, u15, u16, u17, u18, u19, u20, u21, u22, u23, u24, u25, u26, u27, u28, u29, u30, u31, u32, u33, u34, u35, u36, u37, u38, u39, u40, u41, u42, u43, u44, u45, u46, u47, u48, u49, u50, u51, u52, u53, u54, u55, u56, u57, u58, u59, u60, u61, u62, u63, u64, u65, u66, u67, u68, u69, u70, u71, u72, u73, u74, u75, u76, u77, u78, u79, u80, u81, u82, u83, u84, u85, u86, u87, u88, u89, u90, u91, u92, u93, u94, u95, u96, u97, u98, u99, u100, u101, u102, u103, u104, u105, u106, u107], []⟩ W := by
  have HQ := hide hQ
  clear hQ
  conv => arg 2; whnf
  refine wp_nm ?_
  intro a0 hA
  have s1 : a0.tmps.getD 1 undef = .pointer (some ⟨p, 0, none⟩) := by rw [hA]; rfl
  have s4 : a0.tmps.getD 4 undef = v4 := by rw [hA]; rfl
  have hsz : a0.tmps.size = 108 := by rw [hA]; rfl
  have hdf : a0.defers = [] := by rw [hA]
  refine wp_region_chainA (by kernel_rfl) (by kernel_rfl) (by decide +kernel) (by rw [hsz]; decide +kernel) (fun w w' => RY (fun b => v4.ownBlock = some b ∨ W.heap.size ≤ b) w w') (RY.of_fr (Fr.refl _ _).drew) (fun _ _ _ => RY.trans) (Tw [KV.any, KV.eq (.pointer (some ⟨p, 2, none⟩)), KV.eq (.int .u64 (n2 : Int)), KV.any, KV.eq (.pointer (some ⟨p, 3, none⟩)), KV.eq (.int .u64 (n3 : Int)), KV.any, KV.any]) (Tw.mono _) [0, 3, 6, 7] (by decide) (by decide) (fun k i j h1 h2 => ?cp) (StC (fun b => v4.ownBlock = some b) W [some (4, l), some (80, l), some (83, (l ++ be 8 n2)), some (86, ((l ++ be 8 n2) ++ be 8 n3)), some (4, ((l ++ be 8 n2) ++ be 8 n3))]) ?st0 ?steps ?done
  case cp =>
    match k, h1, h2 with
    | 0, h1, h2 => simp at h1 h2; subst h1; subst h2; exact .one rfl (by kernel_rfl)
    | 1, h1, h2 => simp at h1 h2; subst h1; subst h2; exact .one rfl (by kernel_rfl)
    | 2, h1, h2 => simp at h1 h2; subst h1; subst h2; exact .one rfl (by kernel_rfl)
    | 3, h1, h2 => simp at h2
    | k + 4, h1, h2 => simp at h2
  case st0 =>
    intro s l' e
    simp at e
    obtain ⟨rfl, rfl⟩ := e
    rw [s4]
    exact hN.nw.kept (Fr.refl _ _).drew
  case steps =>
    have HC2 : ∀ w', RY (fun b => v4.ownBlock = some b ∨ W.heap.size ≤ b) W w' → w'.cell? ⟨p, 2, none⟩ = some (.int .u64 (n2 : Int)) := fun w' f => by rw [cell_of_heap (f.oth _ _ _ _ (by decide) hp)]; rfl
    have HC3 : ∀ w', RY (fun b => v4.ownBlock = some b ∨ W.heap.size ≤ b) W w' → w'.cell? ⟨p, 3, none⟩ = some (.int .u64 (n3 : Int)) := fun w' f => by rw [cell_of_heap (f.oth _ _ _ _ (by decide) hp)]; rfl
    refine ⟨?_, ?_⟩
    · intro a' w' k hb hR hst hck hle hd
      obtain rfl : 0 = k := hck 0 rfl
      have hn := hst 4 _ rfl
      exact .inl ⟨wanted_none rfl, ch_move (by decide) (.inl rfl) rfl rfl (by rw [hb.size, hsz]; decide) rfl hn (fun _ _ => trivial)⟩
    refine ⟨?_, ?_⟩
    · intro a' w' k hb hR hst hck hle hd
      exact .inl ⟨wanted_none rfl, la_val _ _ (by decide) (x_f25_2 rfl ((hb.old 1 (by decide +kernel)).trans s1)) rfl (RY.of_fr (Fr.refl _ _)) (hst.put rfl (Fr.refl _ _))⟩
    refine ⟨?_, ?_⟩
    · intro a' w' k hb hR hst hck hle hd
      exact .inl ⟨wanted_none rfl, la_val _ _ (by decide) (x_load1 ld22 rfl (hd 1 (by kernel_rfl) 81 rfl) (HC2 w' hR)) rfl (RY.of_fr (Fr.refl _ _)) (hst.put rfl (Fr.refl _ _))⟩
    refine ⟨?_, ?_⟩
    · intro a' w' k hb hR hst hck hle hd
      obtain rfl : 1 = k := hck 1 rfl
      have hn := hst 80 _ rfl
      have e1 : a'.tmps.getD 82 undef = .int .u64 (n2 : Int) := hd 2 (by kernel_rfl) 82 rfl
      exact .inl ⟨wanted_none rfl, ch_put (by decide) rfl rfl rfl e1 rfl (.inr (.inr rfl)) (by first | omega | (simp only [List.length_append, be_length, List.length_replicate]; omega)) (by omega) rfl (by rw [hb.size, hsz]; decide) rfl hn (fun _ _ => trivial)⟩
    refine ⟨?_, ?_⟩
    · intro a' w' k hb hR hst hck hle hd
      exact .inl ⟨wanted_none rfl, la_val _ _ (by decide) (x_f25_3 rfl ((hb.old 1 (by decide +kernel)).trans s1)) rfl (RY.of_fr (Fr.refl _ _)) (hst.put rfl (Fr.refl _ _))⟩
    refine ⟨?_, ?_⟩
    · intro a' w' k hb hR hst hck hle hd
      exact .inl ⟨wanted_none rfl, la_val _ _ (by decide) (x_load1 ld22 rfl (hd 4 (by kernel_rfl) 84 rfl) (HC3 w' hR)) rfl (RY.of_fr (Fr.refl _ _)) (hst.put rfl (Fr.refl _ _))⟩
    refine ⟨?_, ?_⟩
    · intro a' w' k hb hR hst hck hle hd
      obtain rfl : 2 = k := hck 2 rfl
      have hn := hst 83 _ rfl
      have e1 : a'.tmps.getD 85 undef = .int .u64 (n3 : Int) := hd 5 (by kernel_rfl) 85 rfl
      exact .inl ⟨wanted_none rfl, ch_put (by decide) rfl rfl rfl e1 rfl (.inr (.inr rfl)) (by first | omega | (simp only [List.length_append, be_length, List.length_replicate]; omega)) (by omega) rfl (by rw [hb.size, hsz]; decide) rfl hn (fun _ _ => trivial)⟩
    refine ⟨?_, ?_⟩
    · intro a' w' k hb hR hst hck hle hd
      obtain rfl : 3 = k := hck 3 rfl
      have hn := hst 86 _ rfl
      exact .inl ⟨wanted_none rfl, ch_move (by decide) (.inr rfl) rfl rfl (by rw [hb.size, hsz]; decide) rfl hn (fun _ _ => trivial)⟩
    exact trivial
  case done =>
    intro a' w' hb hR hst hall
    have hn := hst 4 _ rfl
    have hfr := frame_eq (a := a') (vs := [u0, .pointer (some ⟨p, 0, none⟩), u2, u3, a'.tmps.getD 4 undef, u5, u6, u7, u8, u9, u10, u11, u12, u13, u14, u15, u16, u17, u18, u19, u20, u21, u22, u23, u24, u25, u26, u27, u28, u29, u30, u31, u32, u33, u34, u35, u36, u37, u38, u39, u40, u41, u42, u43, u44, u45, u46, u47, u48, u49, u50, u51, u52, u53, u54, u55, u56, u57, u58, u59, u60, u61, u62, u63, u64, u65, u66, u67, u68, u69, u70, u71, u72, u73, u74, u75, u76, u77, u78, u79, a'.tmps.getD 80 undef, a'.tmps.getD 81 undef, a'.tmps.getD 82 undef, a'.tmps.getD 83 undef, a'.tmps.getD 84 undef, a'.tmps.getD 85 undef, a'.tmps.getD 86 undef, u87, u88, u89, u90, u91, u92, u93, u94, u95, u96, u97, u98, u99, u100, u101, u102, u103, u104, u105, u106, u107]) (by rw [hb.size, hsz]; rfl) (by rw [hb.defers, hdf]) ⟨(hb.old 0 (by decide +kernel)).trans (by rw [hA]; rfl), (hb.old 1 (by decide +kernel)).trans (by rw [hA]; rfl), (hb.old 2 (by decide +kernel)).trans (by rw [hA]; rfl), (hb.old 3 (by decide +kernel)).trans (by rw [hA]; rfl), rfl, (hb.old 5 (by decide +kernel)).trans (by rw [hA]; rfl), (hb.old 6 (by decide +kernel)).trans (by rw [hA]; rfl), (hb.old 7 (by decide +kernel)).trans (by rw [hA]; rfl), (hb.old 8 (by decide +kernel)).trans (by rw [hA]; rfl), (hb.old 9 (by decide +kernel)).trans (by rw [hA]; rfl), (hb.old 10 (by decide +kernel)).trans (by rw [hA]; rfl), (hb.old 11 (by decide +kernel)).trans (by rw [hA]; rfl), (hb.old 12 (by decide +kernel)).trans (by rw [hA]; rfl), (hb.old 13 (by decide +kernel)).trans (by rw [hA]; rfl), (hb.old 14 (by decide +kernel)).trans (by rw [hA]; rfl), (hb.old 15 (by decide +kernel)).trans (by rw [hA]; rfl), (hb.old 16 (by decide +kernel)).trans (by rw [hA]; rfl), (hb.old 17 (by decide +kernel)).trans (by rw [hA]; rfl), (hb.old 18 (by decide +kernel)).trans (by rw [hA]; rfl), (hb.old 19 (by decide +kernel)).trans (by rw [hA]; rfl), (hb.old 20 (by decide +kernel)).trans (by rw [hA]; rfl), (hb.old 21 (by decide +kernel)).trans (by rw [hA]; rfl), (hb.old 22 (by decide +kernel)).trans (by rw [hA]; rfl), (hb.old 23 (by decide +kernel)).trans (by rw [hA]; rfl), (hb.old 24 (by decide +kernel)).trans (by rw [hA]; rfl), (hb.old 25 (by decide +kernel)).trans (by rw [hA]; rfl), (hb.old 26 (by decide +kernel)).trans (by rw [hA]; rfl), (hb.old 27 (by decide +kernel)).trans (by rw [hA]; rfl), (hb.old 28 (by decide +kernel)).trans (by rw [hA]; rfl), (hb.old 29 (by decide +kernel)).trans (by rw [hA]; rfl), (hb.old 30 (by decide +kernel)).trans (by rw [hA]; rfl), (hb.old 31 (by decide +kernel)).trans (by rw [hA]; rfl), (hb.old 32 (by decide +kernel)).trans (by rw [hA]; rfl), (hb.old 33 (by decide +kernel)).trans (by rw [hA]; rfl), (hb.old 34 (by decide +kernel)).trans (by rw [hA]; rfl), (hb.old 35 (by decide +kernel)).trans (by rw [hA]; rfl), (hb.old 36 (by decide +kernel)).trans (by rw [hA]; rfl), (hb.old 37 (by decide +kernel)).trans (by rw [hA]; rfl), (hb.old 38 (by decide +kernel)).trans (by rw [hA]; rfl), (hb.old 39 (by decide +kernel)).trans (by rw [hA]; rfl), (hb.old 40 (by decide +kernel)).trans (by rw [hA]; rfl), (hb.old 41 (by decide +kernel)).trans (by rw [hA]; rfl), (hb.old 42 (by decide +kernel)).trans (by rw [hA]; rfl), (hb.old 43 (by decide +kernel)).trans (by rw [hA]; rfl), (hb.old 44 (by decide +kernel)).trans (by rw [hA]; rfl), (hb.old 45 (by decide +kernel)).trans (by rw [hA]; rfl), (hb.old 46 (by decide +kernel)).trans (by rw [hA]; rfl), (hb.old 47 (by decide +kernel)).trans (by rw [hA]; rfl), (hb.old 48 (by decide +kernel)).trans (by rw [hA]; rfl), (hb.old 49 (by decide +kernel)).trans (by rw [hA]; rfl), (hb.old 50 (by decide +kernel)).trans (by rw [hA]; rfl), (hb.old 51 (by decide +kernel)).trans (by rw [hA]; rfl), (hb.old 52 (by decide +kernel)).trans (by rw [hA]; rfl), (hb.old 53 (by decide +kernel)).trans (by rw [hA]; rfl), (hb.old 54 (by decide +kernel)).trans (by rw [hA]; rfl), (hb.old 55 (by decide +kernel)).trans (by rw [hA]; rfl), (hb.old 56 (by decide +kernel)).trans (by rw [hA]; rfl), (hb.old 57 (by decide +kernel)).trans (by rw [hA]; rfl), (hb.old 58 (by decide +kernel)).trans (by rw [hA]; rfl), (hb.old 59 (by decide +kernel)).trans (by rw [hA]; rfl), (hb.old 60 (by decide +kernel)).trans (by rw [hA]; rfl), (hb.old 61 (by decide +kernel)).trans (by rw [hA]; rfl), (hb.old 62 (by decide +kernel)).trans (by rw [hA]; rfl), (hb.old 63 (by decide +kernel)).trans (by rw [hA]; rfl), (hb.old 64 (by decide +kernel)).trans (by rw [hA]; rfl), (hb.old 65 (by decide +kernel)).trans (by rw [hA]; rfl), (hb.old 66 (by decide +kernel)).trans (by rw [hA]; rfl), (hb.old 67 (by decide +kernel)).trans (by rw [hA]; rfl), (hb.old 68 (by decide +kernel)).trans (by rw [hA]; rfl), (hb.old 69 (by decide +kernel)).trans (by rw [hA]; rfl), (hb.old 70 (by decide +kernel)).trans (by rw [hA]; rfl), (hb.old 71 (by decide +kernel)).trans (by rw [hA]; rfl), (hb.old 72 (by decide +kernel)).trans (by rw [hA]; rfl), (hb.old 73 (by decide +kernel)).trans (by rw [hA]; rfl), (hb.old 74 (by decide +kernel)).trans (by rw [hA]; rfl), (hb.old 75 (by decide +kernel)).trans (by rw [hA]; rfl), (hb.old 76 (by decide +kernel)).trans (by rw [hA]; rfl), (hb.old 77 (by decide +kernel)).trans (by rw [hA]; rfl), (hb.old 78 (by decide +kernel)).trans (by rw [hA]; rfl), (hb.old 79 (by decide +kernel)).trans (by rw [hA]; rfl), rfl, rfl, rfl, rfl, rfl, rfl, rfl, (hb.old 87 (by decide +kernel)).trans (by rw [hA]; rfl), (hb.old 88 (by decide +kernel)).trans (by rw [hA]; rfl), (hb.old 89 (by decide +kernel)).trans (by rw [hA]; rfl), (hb.old 90 (by decide +kernel)).trans (by rw [hA]; rfl), (hb.old 91 (by decide +kernel)).trans (by rw [hA]; rfl), (hb.old 92 (by decide +kernel)).trans (by rw [hA]; rfl), (hb.old 93 (by decide +kernel)).trans (by rw [hA]; rfl), (hb.old 94 (by decide +kernel)).trans (by rw [hA]; rfl), (hb.old 95 (by decide +kernel)).trans (by rw [hA]; rfl), (hb.old 96 (by decide +kernel)).trans (by rw [hA]; rfl), (hb.old 97 (by decide +kernel)).trans (by rw [hA]; rfl), (hb.old 98 (by decide +kernel)).trans (by rw [hA]; rfl), (hb.old 99 (by decide +kernel)).trans (by rw [hA]; rfl), (hb.old 100 (by decide +kernel)).trans (by rw [hA]; rfl), (hb.old 101 (by decide +kernel)).trans (by rw [hA]; rfl), (hb.old 102 (by decide +kernel)).trans (by rw [hA]; rfl), (hb.old 103 (by decide +kernel)).trans (by rw [hA]; rfl), (hb.old 104 (by decide +kernel)).trans (by rw [hA]; rfl), (hb.old 105 (by decide +kernel)).trans (by rw [hA]; rfl), (hb.old 106 (by decide +kernel)).trans (by rw [hA]; rfl), (hb.old 107 (by decide +kernel)).trans (by rw [hA]; rfl), trivial⟩
    rw [hfr]
    exact unhide HQ _ _ _ _ _ _ _ _ w' (hN.then hn) (hR.oth _ _ _ _ (by decide) hp) hR.fr.size
set_option maxHeartbeats 8000000 in
set_option maxRecDepth 100000 in
theorem gr12_5 {W0 W : World} {p : Nat} {n2 n3 m4 m5 q xc : Nat} {x0 x1 : Value} {xo : Option Addr} {v4 : Value} {l : List UInt8} {u0 u2 u3 u5 u6 u7 u8 u9 u10 u11 u12 u13 u14 u15 u16 u17 u18 u19 u20 u21 u22 u23 u24 u25 u26 u27 u28 u29 u30 u31 u32 u33 u34 u35 u36 u37 u38 u39 u40 u41 u42 u43 u44 u45 u46 u47 u48 u49 u50 u51 u52 u53 u54 u55 u56 u57 u58 u59 u60 u61 u62 u63 u64 u65 u66 u67 u68 u69 u70 u71 u72 u73 u74 u75 u76 u77 u78 u79 u80 u81 u82 u83 u84 u85 u86 u87 u88 u89 u90 u91 u92 u93 u94 u95 u96 u97 u98 u99 u100 u101 u102 u103 u104 u105 u106 u107 : Value} {Q : Exit → Act → World → Prop} (hN : Nb W0 W v4 l) (hp : W.heap[p]? = some (.cells #[x0, x1, .int .u64 (n2 : Int), .int .u64 (n3 : Int), .int .i64 (m4 : Int), .int .i64 (m5 : Int), .slice xo q xc] 25 (0, 0))) (hm4 : m4 < 65536) (hm5 : m5 < 65536) (hq : q < 65536) (hl : l.length ≤ 300)
    (hQ : ∀ (y87 y88 y89 y90 y91 y92 y93 y94 y95 y96 y97 y98 y99 y100 : Value) (v' : Value) (W' : World), Nb W0 W' v' (((l ++ be 2 m4) ++ be 2 m5) ++ be 2 q) → W'.heap[p]? = some (.cells #[x0, x1, .int .u64 (n2 : Int), .int .u64 (n3 : Int), .int .i64 (m4 : Int), .int .i64 (m5 : Int), .slice xo q xc] 25 (0, 0)) → W.heap.size ≤ W'.heap.size → Q .normal ⟨#[u0, .pointer (some ⟨p, 0, none⟩), u2, u3, v', u5, u6, u7, u8, u9, u10, u11, u12, u13, u14, u15, u16, u17, u18, u19, u20, u21, u22, u23, u24, u25, u26, u27, u28, u29, u30, u31, u32, u33, u34, u35, u36, u37, u38, u39, u40, u41, u42, u43, u44, u45, u46, u47, u48, u49, u50, u51, u52, u53, u54, u55, u56, u57, u58, u59, u60, u61, u62, u63, u64, u65, u66, u67, u68, u69, u70, u71, u72, u73, u74, u75, u76, u77, u78, u79, u80, u81, u82, u83, u84, u85, u86, y87, y88, y89, y90, y91, y92, y93, y94, y95, y96, y97, y98, y99, y100, u101, u102, u103, u104, u105, u106, u107], []⟩ W') : (rgF Try.f12 5).wp Try.prog Q ⟨#[u0, .pointer (some ⟨p, 0, none⟩), u2, u3, v4, u5, u6, u7, u8, u9, u10, u11, u12, u13, u14, u15, u16, u17, u18, u19, u20, u21, u22, u23, u24, u25, u26, u27, u28, u29, u30, u31, u32, u33, u34, u35, u36, u37, u38, u39, u40, u41, u42, u43, u44, u45, u46, u47, u48, u49, u50, u51, u52, u53, u54, u55, u56, u57, u58, u59, u60, u61, u62, u63, u64, u65, u66, u67, u68, u69, u70, u71, u72, u73, u74, u75, u76, u77, u78, u79, u80, u81, u82, u83, u84, u85, u86, u87, u88, u89, u90, u91, u92, u93, u94, u95, u96, u97, u98, u99, u100, u101, u102, u103, u104, u105, u106, u107], []⟩ W := by
  have HQ := hide hQ
  clear hQ
  conv => arg 2; whnf
  refine wp_nm ?_
  intro a0 hA
  have s1 : a0.tmps.getD 1 undef = .pointer (some ⟨p, 0, none⟩) := by rw [hA]; rfl
  have s4 : a0.tmps.getD 4 undef = v4 := by rw [hA]; rfl
  have hsz : a0.tmps.size = 108 := by rw [hA]; rfl
  have hdf : a0.defers = [] := by rw [hA]
  refine wp_region_chainA (by kernel_rfl) (by kernel_rfl) (by decide +kernel) (by rw [hsz]; decide +kernel) (fun w w' => RY (fun b => v4.ownBlock = some b ∨ W.heap.size ≤ b) w w') (RY.of_fr (Fr.refl _ _).drew) (fun _ _ _ => RY.trans) (Tw [KV.any, KV.eq (.pointer (some ⟨p, 4, none⟩)), KV.eq (.int .i64 (m4 : Int)), KV.eq (.int .u64 (m4 : Int)), KV.any, KV.eq (.pointer (some ⟨p, 5, none⟩)), KV.eq (.int .i64 (m5 : Int)), KV.eq (.int .u64 (m5 : Int)), KV.any, KV.eq (.pointer (some ⟨p, 6, none⟩)), KV.eq (.slice xo q xc), KV.eq (.int .i64 (q : Int)), KV.eq (.int .u64 (q : Int)), KV.any, KV.any]) (Tw.mono _) [0, 4, 8, 13, 14] (by decide) (by decide) (fun k i j h1 h2 => ?cp) (StC (fun b => v4.ownBlock = some b) W [some (4, l), some (87, l), some (91, (l ++ be 2 m4)), some (95, ((l ++ be 2 m4) ++ be 2 m5)), some (100, (((l ++ be 2 m4) ++ be 2 m5) ++ be 2 q)), some (4, (((l ++ be 2 m4) ++ be 2 m5) ++ be 2 q))]) ?st0 ?steps ?done
  case cp =>
    match k, h1, h2 with
    | 0, h1, h2 => simp at h1 h2; subst h1; subst h2; exact .one rfl (by kernel_rfl)
    | 1, h1, h2 => simp at h1 h2; subst h1; subst h2; exact .one rfl (by kernel_rfl)
    | 2, h1, h2 => simp at h1 h2; subst h1; subst h2; exact .one rfl (by kernel_rfl)
    | 3, h1, h2 => simp at h1 h2; subst h1; subst h2; exact .one rfl (by kernel_rfl)
    | 4, h1, h2 => simp at h2
    | k + 5, h1, h2 => simp at h2
  case st0 =>
    intro s l' e
    simp at e
    obtain ⟨rfl, rfl⟩ := e
    rw [s4]
    exact hN.nw.kept (Fr.refl _ _).drew
  case steps =>
    have HC4 : ∀ w', RY (fun b => v4.ownBlock = some b ∨ W.heap.size ≤ b) W w' → w'.cell? ⟨p, 4, none⟩ = some (.int .i64 (m4 : Int)) := fun w' f => by rw [cell_of_heap (f.oth _ _ _ _ (by decide) hp)]; rfl
    have HC5 : ∀ w', RY (fun b => v4.ownBlock = some b ∨ W.heap.size ≤ b) W w' → w'.cell? ⟨p, 5, none⟩ = some (.int .i64 (m5 : Int)) := fun w' f => by rw [cell_of_heap (f.oth _ _ _ _ (by decide) hp)]; rfl
    have HC6 : ∀ w', RY (fun b => v4.ownBlock = some b ∨ W.heap.size ≤ b) W w' → w'.cell? ⟨p, 6, none⟩ = some (.slice xo q xc) := fun w' f => by rw [cell_of_heap (f.oth _ _ _ _ (by decide) hp)]; rfl
    refine ⟨?_, ?_⟩
    · intro a' w' k hb hR hst hck hle hd
      obtain rfl : 0 = k := hck 0 rfl
      have hn := hst 4 _ rfl
      exact .inl ⟨wanted_none rfl, ch_move (by decide) (.inl rfl) rfl rfl (by rw [hb.size, hsz]; decide) rfl hn (fun _ _ => trivial)⟩
    refine ⟨?_, ?_⟩
    · intro a' w' k hb hR hst hck hle hd
      exact .inl ⟨wanted_none rfl, la_val _ _ (by decide) (x_f25_4 rfl ((hb.old 1 (by decide +kernel)).trans s1)) rfl (RY.of_fr (Fr.refl _ _)) (hst.put rfl (Fr.refl _ _))⟩
    refine ⟨?_, ?_⟩
    · intro a' w' k hb hR hst hck hle hd
      exact .inl ⟨wanted_none rfl, la_val _ _ (by decide) (x_load1 ld3 rfl (hd 1 (by kernel_rfl) 88 rfl) (HC4 w' hR)) rfl (RY.of_fr (Fr.refl _ _)) (hst.put rfl (Fr.refl _ _))⟩
    refine ⟨?_, ?_⟩
    · intro a' w' k hb hR hst hck hle hd
      exact .inl ⟨wanted_none rfl, la_val _ _ (by decide) (x_conv rfl (hd 2 (by kernel_rfl) 89 rfl) (cv32 _ _ (by omega))) rfl (RY.of_fr (Fr.refl _ _)) (hst.put rfl (Fr.refl _ _))⟩
    refine ⟨?_, ?_⟩
    · intro a' w' k hb hR hst hck hle hd
      obtain rfl : 1 = k := hck 1 rfl
      have hn := hst 87 _ rfl
      have e1 : a'.tmps.getD 90 undef = .int .u64 (m4 : Int) := hd 3 (by kernel_rfl) 90 rfl
      exact .inl ⟨wanted_none rfl, ch_put (by decide) rfl rfl rfl e1 rfl (.inl rfl) (by first | omega | (simp only [List.length_append, be_length, List.length_replicate]; omega)) (by omega) rfl (by rw [hb.size, hsz]; decide) rfl hn (fun _ _ => trivial)⟩
    refine ⟨?_, ?_⟩
    · intro a' w' k hb hR hst hck hle hd
      exact .inl ⟨wanted_none rfl, la_val _ _ (by decide) (x_f25_5 rfl ((hb.old 1 (by decide +kernel)).trans s1)) rfl (RY.of_fr (Fr.refl _ _)) (hst.put rfl (Fr.refl _ _))⟩
    refine ⟨?_, ?_⟩
    · intro a' w' k hb hR hst hck hle hd
      exact .inl ⟨wanted_none rfl, la_val _ _ (by decide) (x_load1 ld3 rfl (hd 5 (by kernel_rfl) 92 rfl) (HC5 w' hR)) rfl (RY.of_fr (Fr.refl _ _)) (hst.put rfl (Fr.refl _ _))⟩
    refine ⟨?_, ?_⟩
    · intro a' w' k hb hR hst hck hle hd
      exact .inl ⟨wanted_none rfl, la_val _ _ (by decide) (x_conv rfl (hd 6 (by kernel_rfl) 93 rfl) (cv32 _ _ (by omega))) rfl (RY.of_fr (Fr.refl _ _)) (hst.put rfl (Fr.refl _ _))⟩
    refine ⟨?_, ?_⟩
    · intro a' w' k hb hR hst hck hle hd
      obtain rfl : 2 = k := hck 2 rfl
      have hn := hst 91 _ rfl
      have e1 : a'.tmps.getD 94 undef = .int .u64 (m5 : Int) := hd 7 (by kernel_rfl) 94 rfl
      exact .inl ⟨wanted_none rfl, ch_put (by decide) rfl rfl rfl e1 rfl (.inl rfl) (by first | omega | (simp only [List.length_append, be_length, List.length_replicate]; omega)) (by omega) rfl (by rw [hb.size, hsz]; decide) rfl hn (fun _ _ => trivial)⟩
    refine ⟨?_, ?_⟩
    · intro a' w' k hb hR hst hck hle hd
      exact .inl ⟨wanted_none rfl, la_val _ _ (by decide) (x_f25_6 rfl ((hb.old 1 (by decide +kernel)).trans s1)) rfl (RY.of_fr (Fr.refl _ _)) (hst.put rfl (Fr.refl _ _))⟩
    refine ⟨?_, ?_⟩
    · intro a' w' k hb hR hst hck hle hd
      exact .inl ⟨wanted_none rfl, la_val _ _ (by decide) (x_load1 ld23 rfl (hd 9 (by kernel_rfl) 96 rfl) (HC6 w' hR)) rfl (RY.of_fr (Fr.refl _ _)) (hst.put rfl (Fr.refl _ _))⟩
    refine ⟨?_, ?_⟩
    · intro a' w' k hb hR hst hck hle hd
      exact .inl ⟨wanted_none rfl, la_val _ _ (by decide) (x_len23 rfl (hd 10 (by kernel_rfl) 97 rfl)) rfl (RY.of_fr (Fr.refl _ _)) (hst.put rfl (Fr.refl _ _))⟩
    refine ⟨?_, ?_⟩
    · intro a' w' k hb hR hst hck hle hd
      exact .inl ⟨wanted_none rfl, la_val _ _ (by decide) (x_conv rfl (hd 11 (by kernel_rfl) 98 rfl) (cv32 _ _ (by omega))) rfl (RY.of_fr (Fr.refl _ _)) (hst.put rfl (Fr.refl _ _))⟩
    refine ⟨?_, ?_⟩
    · intro a' w' k hb hR hst hck hle hd
      obtain rfl : 3 = k := hck 3 rfl
      have hn := hst 95 _ rfl
      have e1 : a'.tmps.getD 99 undef = .int .u64 (q : Int) := hd 12 (by kernel_rfl) 99 rfl
      exact .inl ⟨wanted_none rfl, ch_put (by decide) rfl rfl rfl e1 rfl (.inl rfl) (by first | omega | (simp only [List.length_append, be_length, List.length_replicate]; omega)) (by omega) rfl (by rw [hb.size, hsz]; decide) rfl hn (fun _ _ => trivial)⟩
    refine ⟨?_, ?_⟩
    · intro a' w' k hb hR hst hck hle hd
      obtain rfl : 4 = k := hck 4 rfl
      have hn := hst 100 _ rfl
      exact .inl ⟨wanted_none rfl, ch_move (by decide) (.inr rfl) rfl rfl (by rw [hb.size, hsz]; decide) rfl hn (fun _ _ => trivial)⟩
    exact trivial
  case done =>
    intro a' w' hb hR hst hall
    have hn := hst 4 _ rfl
    have hfr := frame_eq (a := a') (vs := [u0, .pointer (some ⟨p, 0, none⟩), u2, u3, a'.tmps.getD 4 undef, u5, u6, u7, u8, u9, u10, u11, u12, u13, u14, u15, u16, u17, u18, u19, u20, u21, u22, u23, u24, u25, u26, u27, u28, u29, u30, u31, u32, u33, u34, u35, u36, u37, u38, u39, u40, u41, u42, u43, u44, u45, u46, u47, u48, u49, u50, u51, u52, u53, u54, u55, u56, u57, u58, u59, u60, u61, u62, u63, u64, u65, u66, u67, u68, u69, u70, u71, u72, u73, u74, u75, u76, u77, u78, u79, u80, u81, u82, u83, u84, u85, u86, a'.tmps.getD 87 undef, a'.tmps.getD 88 undef, a'.tmps.getD 89 undef, a'.tmps.getD 90 undef, a'.tmps.getD 91 undef, a'.tmps.getD 92 undef, a'.tmps.getD 93 undef, a'.tmps.getD 94 undef, a'.tmps.getD 95 undef, a'.tmps.getD 96 undef, a'.tmps.getD 97 undef, a'.tmps.getD 98 undef, a'.tmps.getD 99 undef, a'.tmps.getD 100 undef, u101, u102, u103, u104, u105, u106, u107]) (by rw [hb.size, hsz]; rfl) (by rw [hb.defers, hdf]) ⟨(hb.old 0 (by decide +kernel)).trans (by rw [hA]; rfl), (hb.old 1 (by decide +kernel)).trans (by rw [hA]; rfl), (hb.old 2 (by decide +kernel)).trans (by rw [hA]; rfl), (hb.old 3 (by decide +kernel)).trans (by rw [hA]; rfl), rfl, (hb.old 5 (by decide +kernel)).trans (by rw [hA]; rfl), (hb.old 6 (by decide +kernel)).trans (by rw [hA]; rfl), (hb.old 7 (by decide +kernel)).trans (by rw [hA]; rfl), (hb.old 8 (by decide +kernel)).trans (by rw [hA]; rfl), (hb.old 9 (by decide +kernel)).trans (by rw [hA]; rfl), (hb.old 10 (by decide +kernel)).trans (by rw [hA]; rfl), (hb.old 11 (by decide +kernel)).trans (by rw [hA]; rfl), (hb.old 12 (by decide +kernel)).trans (by rw [hA]; rfl), (hb.old 13 (by decide +kernel)).trans (by rw [hA]; rfl), (hb.old 14 (by decide +kernel)).trans (by rw [hA]; rfl), (hb.old 15 (by decide +kernel)).trans (by rw [hA]; rfl), (hb.old 16 (by decide +kernel)).trans (by rw [hA]; rfl), (hb.old 17 (by decide +kernel)).trans (by rw [hA]; rfl), (hb.old 18 (by decide +kernel)).trans (by rw [hA]; rfl), (hb.old 19 (by decide +kernel)).trans (by rw [hA]; rfl), (hb.old 20 (by decide +kernel)).trans (by rw [hA]; rfl), (hb.old 21 (by decide +kernel)).trans (by rw [hA]; rfl), (hb.old 22 (by decide +kernel)).trans (by rw [hA]; rfl), (hb.old 23 (by decide +kernel)).trans (by rw [hA]; rfl), (hb.old 24 (by decide +kernel)).trans (by rw [hA]; rfl), (hb.old 25 (by decide +kernel)).trans (by rw [hA]; rfl), (hb.old 26 (by decide +kernel)).trans (by rw [hA]; rfl), (hb.old 27 (by decide +kernel)).trans (by rw [hA]; rfl), (hb.old 28 (by decide +kernel)).trans (by rw [hA]; rfl), (hb.old 29 (by decide +kernel)).trans (by rw [hA]; rfl), (hb.old 30 (by decide +kernel)).trans (by rw [hA]; rfl), (hb.old 31 (by decide +kernel)).trans (by rw [hA]; rfl), (hb.old 32 (by decide +kernel)).trans (by rw [hA]; rfl), (hb.old 33 (by decide +kernel)).trans (by rw [hA]; rfl), (hb.old 34 (by decide +kernel)).trans (by rw [hA]; rfl), (hb.old 35 (by decide +kernel)).trans (by rw [hA]; rfl), (hb.old 36 (by decide +kernel)).trans (by rw [hA]; rfl), (hb.old 37 (by decide +kernel)).trans (by rw [hA]; rfl), (hb.old 38 (by decide +kernel)).trans (by rw [hA]; rfl), (hb.old 39 (by decide +kernel)).trans (by rw [hA]; rfl), (hb.old 40 (by decide +kernel)).trans (by rw [hA]; rfl), (hb.old 41 (by decide +kernel)).trans (by rw [hA]; rfl), (hb.old 42 (by decide +kernel)).trans (by rw [hA]; rfl), (hb.old 43 (by decide +kernel)).trans (by rw [hA]; rfl), (hb.old 44 (by decide +kernel)).trans (by rw [hA]; rfl), (hb.old 45 (by decide +kernel)).trans (by rw [hA]; rfl), (hb.old 46 (by decide +kernel)).trans (by rw [hA]; rfl), (hb.old 47 (by decide +kernel)).trans (by rw [hA]; rfl), (hb.old 48 (by decide +kernel)).trans (by rw [hA]; rfl), (hb.old 49 (by decide +kernel)).trans (by rw [hA]; rfl), (hb.old 50 (by decide +kernel)).trans (by rw [hA]; rfl), (hb.old 51 (by decide +kernel)).trans (by rw [hA]; rfl), (hb.old 52 (by decide +kernel)).trans (by rw [hA]; rfl), (hb.old 53 (by decide +kernel)).trans (by rw [hA]; rfl), (hb.old 54 (by decide +kernel)).trans (by rw [hA]; rfl), (hb.old 55 (by decide +kernel)).trans (by rw [hA]; rfl), (hb.old 56 (by decide +kernel)).trans (by rw [hA]; rfl), (hb.old 57 (by decide +kernel)).trans (by rw [hA]; rfl), (hb.old 58 (by decide +kernel)).trans (by rw [hA]; rfl), (hb.old 59 (by decide +kernel)).trans (by rw [hA]; rfl), (hb.old 60 (by decide +kernel)).trans (by rw [hA]; rfl), (hb.old 61 (by decide +kernel)).trans (by rw [hA]; rfl), (hb.old 62 (by decide +kernel)).trans (by rw [hA]; rfl), (hb.old 63 (by decide +kernel)).trans (by rw [hA]; rfl), (hb.old 64 (by decide +kernel)).trans (by rw [hA]; rfl), (hb.old 65 (by decide +kernel)).trans (by rw [hA]; rfl), (hb.old 66 (by decide +kernel)).trans (by rw [hA]; rfl), (hb.old 67 (by decide +kernel)).trans (by rw [hA]; rfl), (hb.old 68 (by decide +kernel)).trans (by rw [hA]; rfl), (hb.old 69 (by decide +kernel)).trans (by rw [hA]; rfl), (hb.old 70 (by decide +kernel)).trans (by rw [hA]; rfl), (hb.old 71 (by decide +kernel)).trans (by rw [hA]; rfl), (hb.old 72 (by decide +kernel)).trans (by rw [hA]; rfl), (hb.old 73 (by decide +kernel)).trans (by rw [hA]; rfl), (hb.old 74 (by decide +kernel)).trans (by rw [hA]; rfl), (hb.old 75 (by decide +kernel)).trans (by rw [hA]; rfl), (hb.old 76 (by decide +kernel)).trans (by rw [hA]; rfl), (hb.old 77 (by decide +kernel)).trans (by rw [hA]; rfl), (hb.old 78 (by decide +kernel)).trans (by rw [hA]; rfl), (hb.old 79 (by decide +kernel)).trans (by rw [hA]; rfl), (hb.old 80 (by decide +kernel)).trans (by rw [hA]; rfl), (hb.old 81 (by decide +kernel)).trans (by rw [hA]; rfl), (hb.old 82 (by decide +kernel)).trans (by rw [hA]; rfl), (hb.old 83 (by decide +kernel)).trans (by rw [hA]; rfl), (hb.old 84 (by decide +kernel)).trans (by rw [hA]; rfl), (hb.old 85 (by decide +kernel)).trans (by rw [hA]; rfl), (hb.old 86 (by decide +kernel)).trans (by rw [hA]; rfl), rfl, rfl, rfl, rfl, rfl, rfl, rfl, rfl, rfl, rfl, rfl, rfl, rfl, rfl, (hb.old 101 (by decide +kernel)).trans (by rw [hA]; rfl), (hb.old 102 (by decide +kernel)).trans (by rw [hA]; rfl), (hb.old 103 (by decide +kernel)).trans (by rw [hA]; rfl), (hb.old 104 (by decide +kernel)).trans (by rw [hA]; rfl), (hb.old 105 (by decide +kernel)).trans (by rw [hA]; rfl), (hb.old 106 (by decide +kernel)).trans (by rw [hA]; rfl), (hb.old 107 (by decide +kernel)).trans (by rw [hA]; rfl), trivial⟩
    rw [hfr]
    exact unhide HQ _ _ _ _ _ _ _ _ _ _ _ _ _ _ _ w' (hN.then hn) (hR.oth _ _ _ _ (by decide) hp) hR.fr.size
set_option maxHeartbeats 8000000 in
set_option maxRecDepth 100000 in
theorem gr12_6 {W0 W : World} {p : Nat} {n2 n3 m4 m5 q xc : Nat} {x0 x1 : Value} {xo : Option Addr} {bs : List UInt8} {v4 : Value} {l : List UInt8} {u0 u2 u3 u5 u6 u7 u8 u9 u10 u11 u12 u13 u14 u15 u16 u17 u18 u19 u20 u21 u22 u23 u24 u25 u26 u27 u28 u29 u30 u31 u32 u33 u34 u35 u36 u37 u38 u39 u40 u41 u42 u43 u44 u45 u46 u47 u48 u49 u50 u51 u52 u53 u54 u55 u56 u57 u58 u59 u60 u61 u62 u63 u64 u65 u66 u67 u68 u69 u70 u71 u72 u73 u74 u75 u76 u77 u78 u79 u80 u81 u82 u83 u84 u85 u86 u87 u88 u89 u90 u91 u92 u93 u94 u95 u96 u97 u98 u99 u100 u101 u102 u103 u104 u105 u106 u107 : Value} {Q : Exit → Act → World → Prop} (hN : Nb W0 W v4 l) (hp : W.heap[p]? = some (.cells #[x0, x1, .int .u64 (n2 : Int), .int .u64 (n3 : Int), .int .i64 (m4 : Int), .int .i64 (m5 : Int), .slice xo q xc] 25 (0, 0))) (hx0 : Rd W (.slice xo q xc) bs) (hxo : ∀ b, (Value.slice xo q xc).ownBlock = some b → b < W0.heap.size) (hl0 : 0 < l.length) (hl : l.length ≤ 300) (hbs : bs.length ≤ 1000)
    (hQ : ∀ (y101 y102 y103 y104 y105 : Value) (v' : Value) (W' : World), Nb W0 W' v' ((l ++ List.replicate 6 0) ++ bs) → W'.heap[p]? = some (.cells #[x0, x1, .int .u64 (n2 : Int), .int .u64 (n3 : Int), .int .i64 (m4 : Int), .int .i64 (m5 : Int), .slice xo q xc] 25 (0, 0)) → W.heap.size ≤ W'.heap.size → Q .normal ⟨#[u0, .pointer (some ⟨p, 0, none⟩), u2, u3, v', u5, u6, u7, u8, u9, u10, u11, u12, u13, u14, u15, u16, u17, u18, u19, u20, u21, u22, u23, u24, u25, u26, u27, u28, u29, u30, u31, u32, u33, u34, u35, u36, u37, u38, u39, u40, u41, u42, u43, u44, u45, u46, u47, u48, u49, u50, u51, u52, u53, u54, u55, u56, u57, u58, u59, u60, u61, u62, u63, u64, u65, u66, u67, u68, u69, u70, u71, u72, u73, u74, u75, u76, u77, u78, u79, u80, u81, u82, u83, u84, u85, u86, u87, u88, u89, u90, u91, u92, u93, u94, u95, u96, u97, u98, u99, u100, y101, y102, y103, y104, y105, u106, u107], []⟩ W') : (rgF Try.f12 6).wp Try.prog Q ⟨#[u0, .pointer (some ⟨p, 0, none⟩), u2, u3, v4, u5, u6, u7, u8, u9, u10, u11, u12, u13, u14, u15, u16, u17, u18, u19, u20, u21, u22, u23, u24, u25, u26, u27, u28, u29, u30, u31, u32, u33, u34, u35, u36, u37, u38, u39, u40, u41, u42, u43, u44, u45, u46, u47, u48, u49, u50, u51, u52, u53, u54, u55, u56, u57, u58, u59, u60, u61, u62, u63, u64, u65, u66, u67, u68, u69, u70, u71, u72, u73, u74, u75, u76, u77, u78, u79, u80, u81, u82, u83, u84, u85, u86, u87, u88, u89, u90, u91, u92, u93, u94, u95, u96, u97, u98, u99, u100, u101, u102, u103, u104, u105, u106, u107], []⟩ W := by
  have HQ := hide hQ
  clear hQ
  conv => arg 2; whnf
  refine wp_nm ?_
  intro a0 hA
  have s1 : a0.tmps.getD 1 undef = .pointer (some ⟨p, 0, none⟩) := by rw [hA]; rfl
  have s4 : a0.tmps.getD 4 undef = v4 := by rw [hA]; rfl
  have hsz : a0.tmps.size = 108 := by rw [hA]; rfl
  have hdf : a0.defers = [] := by rw [hA]
  refine wp_region_chainA (by kernel_rfl) (by kernel_rfl) (by decide +kernel) (by rw [hsz]; decide +kernel) (fun w w' => RY (fun b => v4.ownBlock = some b ∨ W.heap.size ≤ b) w w') (RY.of_fr (Fr.refl _ _).drew) (fun _ _ _ => RY.trans) (Tw [KV.any, KV.any, KV.eq (.pointer (some ⟨p, 6, none⟩)), KV.eq (.slice xo q xc), KV.any, KV.any]) (Tw.mono _) [0, 1, 4, 5] (by decide) (by decide) (fun k i j h1 h2 => ?cp) (StC (fun b => v4.ownBlock = some b) W [some (4, l), some (101, l), some (102, (l ++ List.replicate 6 0)), some (105, ((l ++ List.replicate 6 0) ++ bs)), some (4, ((l ++ List.replicate 6 0) ++ bs))]) ?st0 ?steps ?done
  case cp =>
    match k, h1, h2 with
    | 0, h1, h2 => simp at h1 h2; subst h1; subst h2; exact .one rfl (by kernel_rfl)
    | 1, h1, h2 => simp at h1 h2; subst h1; subst h2; exact .one rfl (by kernel_rfl)
    | 2, h1, h2 => simp at h1 h2; subst h1; subst h2; exact .one rfl (by kernel_rfl)
    | 3, h1, h2 => simp at h2
    | k + 4, h1, h2 => simp at h2
  case st0 =>
    intro s l' e
    simp at e
    obtain ⟨rfl, rfl⟩ := e
    rw [s4]
    exact hN.nw.kept (Fr.refl _ _).drew
  case steps =>
    have HC6 : ∀ w', RY (fun b => v4.ownBlock = some b ∨ W.heap.size ≤ b) W w' → w'.cell? ⟨p, 6, none⟩ = some (.slice xo q xc) := fun w' f => by rw [cell_of_heap (f.oth _ _ _ _ (by decide) hp)]; rfl
    have HX : ∀ w', RY (fun b => v4.ownBlock = some b ∨ W.heap.size ≤ b) W w' → Rd w' (.slice xo q xc) bs := fun w' f => hx0.kept f.fr (fun b e h => by
      have h1 := hxo b e
      have h2 := hN.fr.size
      rcases h with h | h
      · have := hN.new b h; omega
      · omega)
    refine ⟨?_, ?_⟩
    · intro a' w' k hb hR hst hck hle hd
      obtain rfl : 0 = k := hck 0 rfl
      have hn := hst 4 _ rfl
      exact .inl ⟨wanted_none rfl, ch_move (by decide) (.inl rfl) rfl rfl (by rw [hb.size, hsz]; decide) rfl hn (fun _ _ => trivial)⟩
    refine ⟨?_, ?_⟩
    · intro a' w' k hb hR hst hck hle hd
      obtain rfl : 1 = k := hck 1 rfl
      have hn := hst 101 _ rfl
      exact .inl ⟨wanted_none rfl, ch_zeros (q := 6) (by decide) rfl rfl rfl rfl (by first | omega | (simp only [List.length_append, be_length, List.length_replicate]; omega)) (by first | omega | (simp only [List.length_append, be_length, List.length_replicate]; omega)) rfl (by rw [hb.size, hsz]; decide) rfl hn (fun _ _ => trivial)⟩
    refine ⟨?_, ?_⟩
    · intro a' w' k hb hR hst hck hle hd
      exact .inl ⟨wanted_none rfl, la_val _ _ (by decide) (x_f25_6 rfl ((hb.old 1 (by decide +kernel)).trans s1)) rfl (RY.of_fr (Fr.refl _ _)) (hst.put rfl (Fr.refl _ _))⟩
    refine ⟨?_, ?_⟩
    · intro a' w' k hb hR hst hck hle hd
      exact .inl ⟨wanted_none rfl, la_val _ _ (by decide) (x_load1 ld23 rfl (hd 2 (by kernel_rfl) 103 rfl) (HC6 w' hR)) rfl (RY.of_fr (Fr.refl _ _)) (hst.put rfl (Fr.refl _ _))⟩
    refine ⟨?_, ?_⟩
    · intro a' w' k hb hR hst hck hle hd
      obtain rfl : 2 = k := hck 2 rfl
      have hn := hst 102 _ rfl
      have e1 : a'.tmps.getD 104 undef = .slice xo q xc := hd 3 (by kernel_rfl) 104 rfl
      exact .inl ⟨wanted_none rfl, ch_app (by decide) rfl rfl rfl e1 (HX w' hR) (by first | omega | (simp only [List.length_append, be_length, List.length_replicate]; omega)) rfl (by rw [hb.size, hsz]; decide) rfl hn (fun _ _ => trivial)⟩
    refine ⟨?_, ?_⟩
    · intro a' w' k hb hR hst hck hle hd
      obtain rfl : 3 = k := hck 3 rfl
      have hn := hst 105 _ rfl
      exact .inl ⟨wanted_none rfl, ch_move (by decide) (.inr rfl) rfl rfl (by rw [hb.size, hsz]; decide) rfl hn (fun _ _ => trivial)⟩
    exact trivial
  case done =>
    intro a' w' hb hR hst hall
    have hn := hst 4 _ rfl
    have hfr := frame_eq (a := a') (vs := [u0, .pointer (some ⟨p, 0, none⟩), u2, u3, a'.tmps.getD 4 undef, u5, u6, u7, u8, u9, u10, u11, u12, u13, u14, u15, u16, u17, u18, u19, u20, u21, u22, u23, u24, u25, u26, u27, u28, u29, u30, u31, u32, u33, u34, u35, u36, u37, u38, u39, u40, u41, u42, u43, u44, u45, u46, u47, u48, u49, u50, u51, u52, u53, u54, u55, u56, u57, u58, u59, u60, u61, u62, u63, u64, u65, u66, u67, u68, u69, u70, u71, u72, u73, u74, u75, u76, u77, u78, u79, u80, u81, u82, u83, u84, u85, u86, u87, u88, u89, u90, u91, u92, u93, u94, u95, u96, u97, u98, u99, u100, a'.tmps.getD 101 undef, a'.tmps.getD 102 undef, a'.tmps.getD 103 undef, a'.tmps.getD 104 undef, a'.tmps.getD 105 undef, u106, u107]) (by rw [hb.size, hsz]; rfl) (by rw [hb.defers, hdf]) ⟨(hb.old 0 (by decide +kernel)).trans (by rw [hA]; rfl), (hb.old 1 (by decide +kernel)).trans (by rw [hA]; rfl), (hb.old 2 (by decide +kernel)).trans (by rw [hA]; rfl), (hb.old 3 (by decide +kernel)).trans (by rw [hA]; rfl), rfl, (hb.old 5 (by decide +kernel)).trans (by rw [hA]; rfl), (hb.old 6 (by decide +kernel)).trans (by rw [hA]; rfl), (hb.old 7 (by decide +kernel)).trans (by rw [hA]; rfl), (hb.old 8 (by decide +kernel)).trans (by rw [hA]; rfl), (hb.old 9 (by decide +kernel)).trans (by rw [hA]; rfl), (hb.old 10 (by decide +kernel)).trans (by rw [hA]; rfl), (hb.old 11 (by decide +kernel)).trans (by rw [hA]; rfl), (hb.old 12 (by decide +kernel)).trans (by rw [hA]; rfl), (hb.old 13 (by decide +kernel)).trans (by rw [hA]; rfl), (hb.old 14 (by decide +kernel)).trans (by rw [hA]; rfl), (hb.old 15 (by decide +kernel)).trans (by rw [hA]; rfl), (hb.old 16 (by decide +kernel)).trans (by rw [hA]; rfl), (hb.old 17 (by decide +kernel)).trans (by rw [hA]; rfl), (hb.old 18 (by decide +kernel)).trans (by rw [hA]; rfl), (hb.old 19 (by decide +kernel)).trans (by rw [hA]; rfl), (hb.old 20 (by decide +kernel)).trans (by rw [hA]; rfl), (hb.old 21 (by decide +kernel)).trans (by rw [hA]; rfl), (hb.old 22 (by decide +kernel)).trans (by rw [hA]; rfl), (hb.old 23 (by decide +kernel)).trans (by rw [hA]; rfl), (hb.old 24 (by decide +kernel)).trans (by rw [hA]; rfl), (hb.old 25 (by decide +kernel)).trans (by rw [hA]; rfl), (hb.old 26 (by decide +kernel)).trans (by rw [hA]; rfl), (hb.old 27 (by decide +kernel)).trans (by rw [hA]; rfl), (hb.old 28 (by decide +kernel)).trans (by rw [hA]; rfl), (hb.old 29 (by decide +kernel)).trans (by rw [hA]; rfl), (hb.old 30 (by decide +kernel)).trans (by rw [hA]; rfl), (hb.old 31 (by decide +kernel)).trans (by rw [hA]; rfl), (hb.old 32 (by decide +kernel)).trans (by rw [hA]; rfl), (hb.old 33 (by decide +kernel)).trans (by rw [hA]; rfl), (hb.old 34 (by decide +kernel)).trans (by rw [hA]; rfl), (hb.old 35 (by decide +kernel)).trans (by rw [hA]; rfl), (hb.old 36 (by decide +kernel)).trans (by rw [hA]; rfl), (hb.old 37 (by decide +kernel)).trans (by rw [hA]; rfl), (hb.old 38 (by decide +kernel)).trans (by rw [hA]; rfl), (hb.old 39 (by decide +kernel)).trans (by rw [hA]; rfl), (hb.old 40 (by decide +kernel)).trans (by rw [hA]; rfl), (hb.old 41 (by decide +kernel)).trans (by rw [hA]; rfl), (hb.old 42 (by decide +kernel)).trans (by rw [hA]; rfl), (hb.old 43 (by decide +kernel)).trans (by rw [hA]; rfl), (hb.old 44 (by decide +kernel)).trans (by rw [hA]; rfl), (hb.old 45 (by decide +kernel)).trans (by rw [hA]; rfl), (hb.old 46 (by decide +kernel)).trans (by rw [hA]; rfl), (hb.old 47 (by decide +kernel)).trans (by rw [hA]; rfl), (hb.old 48 (by decide +kernel)).trans (by rw [hA]; rfl), (hb.old 49 (by decide +kernel)).trans (by rw [hA]; rfl), (hb.old 50 (by decide +kernel)).trans (by rw [hA]; rfl), (hb.old 51 (by decide +kernel)).trans (by rw [hA]; rfl), (hb.old 52 (by decide +kernel)).trans (by rw [hA]; rfl), (hb.old 53 (by decide +kernel)).trans (by rw [hA]; rfl), (hb.old 54 (by decide +kernel)).trans (by rw [hA]; rfl), (hb.old 55 (by decide +kernel)).trans (by rw [hA]; rfl), (hb.old 56 (by decide +kernel)).trans (by rw [hA]; rfl), (hb.old 57 (by decide +kernel)).trans (by rw [hA]; rfl), (hb.old 58 (by decide +kernel)).trans (by rw [hA]; rfl), (hb.old 59 (by decide +kernel)).trans (by rw [hA]; rfl), (hb.old 60 (by decide +kernel)).trans (by rw [hA]; rfl), (hb.old 61 (by decide +kernel)).trans (by rw [hA]; rfl), (hb.old 62 (by decide +kernel)).trans (by rw [hA]; rfl), (hb.old 63 (by decide +kernel)).trans (by rw [hA]; rfl), (hb.old 64 (by decide +kernel)).trans (by rw [hA]; rfl), (hb.old 65 (by decide +kernel)).trans (by rw [hA]; rfl), (hb.old 66 (by decide +kernel)).trans (by rw [hA]; rfl), (hb.old 67 (by decide +kernel)).trans (by rw [hA]; rfl), (hb.old 68 (by decide +kernel)).trans (by rw [hA]; rfl), (hb.old 69 (by decide +kernel)).trans (by rw [hA]; rfl), (hb.old 70 (by decide +kernel)).trans (by rw [hA]; rfl), (hb.old 71 (by decide +kernel)).trans (by rw [hA]; rfl), (hb.old 72 (by decide +kernel)).trans (by rw [hA]; rfl), (hb.old 73 (by decide +kernel)).trans (by rw [hA]; rfl), (hb.old 74 (by decide +kernel)).trans (by rw [hA]; rfl), (hb.old 75 (by decide +kernel)).trans (by rw [hA]; rfl), (hb.old 76 (by decide +kernel)).trans (by rw [hA]; rfl), (hb.old 77 (by decide +kernel)).trans (by rw [hA]; rfl), (hb.old 78 (by decide +kernel)).trans (by rw [hA]; rfl), (hb.old 79 (by decide +kernel)).trans (by rw [hA]; rfl), (hb.old 80 (by decide +kernel)).trans (by rw [hA]; rfl), (hb.old 81 (by decide +kernel)).trans (by rw [hA]; rfl), (hb.old 82 (by decide +kernel)).trans (by rw [hA]; rfl), (hb.old 83 (by decide +kernel)).trans (by rw [hA]; rfl), (hb.old 84 (by decide +kernel)).trans (by rw [hA]; rfl), (hb.old 85 (by decide +kernel)).trans (by rw [hA]; rfl), (hb.old 86 (by decide +kernel)).trans (by rw [hA]; rfl), (hb.old 87 (by decide +kernel)).trans (by rw [hA]; rfl), (hb.old 88 (by decide +kernel)).trans (by rw [hA]; rfl), (hb.old 89 (by decide +kernel)).trans (by rw [hA]; rfl), (hb.old 90 (by decide +kernel)).trans (by rw [hA]; rfl), (hb.old 91 (by decide +kernel)).trans (by rw [hA]; rfl), (hb.old 92 (by decide +kernel)).trans (by rw [hA]; rfl), (hb.old 93 (by decide +kernel)).trans (by rw [hA]; rfl), (hb.old 94 (by decide +kernel)).trans (by rw [hA]; rfl), (hb.old 95 (by decide +kernel)).trans (by rw [hA]; rfl), (hb.old 96 (by decide +kernel)).trans (by rw [hA]; rfl), (hb.old 97 (by decide +kernel)).trans (by rw [hA]; rfl), (hb.old 98 (by decide +kernel)).trans (by rw [hA]; rfl), (hb.old 99 (by decide +kernel)).trans (by rw [hA]; rfl), (hb.old 100 (by decide +kernel)).trans (by rw [hA]; rfl), rfl, rfl, rfl, rfl, rfl, (hb.old 106 (by decide +kernel)).trans (by rw [hA]; rfl), (hb.old 107 (by decide +kernel)).trans (by rw [hA]; rfl), trivial⟩
    rw [hfr]
    exact unhide HQ _ _ _ _ _ _ w' (hN.then hn) (hR.oth _ _ _ _ (by decide) hp) hR.fr.size
end Go.Proofs.Ytgodlfoidjeekaa

namespace Go.Proofs.Ytgodlfoidjeekaa
set_option linter.unusedVariables false
set_option linter.unusedSimpArgs false
open Go.RowKit Go.Lib
set_option linter.unusedVariables false
set_option linter.unusedSimpArgs false

attribute [local go_sem ↓] Go.wp_at_zero Go.wp_at_succ

section
variable {ρ : Operand → Value} {o : Oper} {w : World} {x y : Operand}
theorem x_idx28 {B of n cap j : Nat} (ho : o.op = .indexAddr 28 x y) (hx : ρ x = .slice (some ⟨B, of, none⟩) n cap) (hy : ρ y = .int .i64 (j : Int)) (hj : j < n) (hc : n ≤ cap) : (execOp ρ o).run Try.prog w = .ok (.value (.pointer (some ⟨B, of + j * 2, none⟩))) w := by
  have h2 : j < cap := by omega
  simp [execOp, ho, hx, hy, go_sem, hj, h2]
theorem x_fieldG0 {b of : Nat} (ho : o.op = .fieldAddr 94 x 0) (hx : ρ x = .pointer (some ⟨b, of, none⟩)) : (execOp ρ o).run Try.prog w = .ok (.value (.pointer (some ⟨b, of, none⟩))) w := by
  simp [execOp, ho, hx, go_sem]
theorem x_fieldG1 {b of : Nat} (ho : o.op = .fieldAddr 94 x 1) (hx : ρ x = .pointer (some ⟨b, of, none⟩)) : (execOp ρ o).run Try.prog w = .ok (.value (.pointer (some ⟨b, of + 1, none⟩))) w := by
  simp [execOp, ho, hx, go_sem]
end
set_option maxHeartbeats 8000000 in
set_option maxRecDepth 100000 in
theorem gr17 {W0 W : World} {B of n cap j z : Nat} {x v4 : Value} {l bs : List UInt8} {u1 u2 u3 u6 u7 u8 u9 u10 u11 u12 u13 u14 u15 u16 u17 u18 u19 u20 u21 u22 u23 u24 u25 u26 u27 u28 u29 u30 u31 u32 u33 u34 u35 u36 u37 u38 u39 u40 u41 u42 u43 u44 u45 u46 u47 u48 u49 u50 u51 u52 u53 u54 u55 u56 u57 u58 u59 u60 u61 : Value} {Q : Exit → Act → World → Prop} (hN : Nb W0 W v4 l) (hB : B < W0.heap.size) (hj : j < n) (hnc : n ≤ cap) (c0 : W.cell? ⟨B, of + j * 2, none⟩ = some (.int .i64 (z : Int))) (c1 : W.cell? ⟨B, of + j * 2 + 1, none⟩ = some x) (hz : z < 4294967296) (hx0 : Rd W x bs) (hxo : ∀ b, x.ownBlock = some b → b < W0.heap.size) (hl : l.length ≤ 50000) (hbs : bs.length ≤ 1000)
    (hQ : ∀ (y47 y48 y49 y50 y51 y52 y53 y54 y55 y56 y57 y58 y59 y60 : Value) (v' : Value) (W' : World), Nb W0 W' v' (l ++ be 4 z ++ bs) → W.heap.size ≤ W'.heap.size → Q .normal ⟨#[.slice (some ⟨B, of, none⟩) n cap, u1, u2, u3, v', .int .i64 (j : Int), u6, u7, u8, u9, u10, u11, u12, u13, u14, u15, u16, u17, u18, u19, u20, u21, u22, u23, u24, u25, u26, u27, u28, u29, u30, u31, u32, u33, u34, u35, u36, u37, u38, u39, u40, u41, u42, u43, u44, u45, u46, y47, y48, y49, y50, y51, y52, y53, y54, y55, y56, y57, y58, y59, y60, u61], []⟩ W') : (rgF Try.f17 9).wp Try.prog Q ⟨#[.slice (some ⟨B, of, none⟩) n cap, u1, u2, u3, v4, .int .i64 (j : Int), u6, u7, u8, u9, u10, u11, u12, u13, u14, u15, u16, u17, u18, u19, u20, u21, u22, u23, u24, u25, u26, u27, u28, u29, u30, u31, u32, u33, u34, u35, u36, u37, u38, u39, u40, u41, u42, u43, u44, u45, u46, u47, u48, u49, u50, u51, u52, u53, u54, u55, u56, u57, u58, u59, u60, u61], []⟩ W := by
  have HQ := hide hQ
  clear hQ
  conv => arg 2; whnf
  refine wp_nm ?_
  intro a0 hA
  have s0 : a0.tmps.getD 0 undef = .slice (some ⟨B, of, none⟩) n cap := by rw [hA]; rfl
  have s4 : a0.tmps.getD 4 undef = v4 := by rw [hA]; rfl
  have s5 : a0.tmps.getD 5 undef = .int .i64 (j : Int) := by rw [hA]; rfl
  have hsz : a0.tmps.size = 62 := by rw [hA]; rfl
  have hdf : a0.defers = [] := by rw [hA]
  refine wp_region_chainA (by kernel_rfl) (by kernel_rfl) (by decide +kernel) (by rw [hsz]; decide +kernel) (fun w w' => RY (fun b => v4.ownBlock = some b ∨ W.heap.size ≤ b) w w') (RY.of_fr (Fr.refl _ _).drew) (fun _ _ _ => RY.trans) (Tw [KV.any, KV.eq (.slice (some ⟨B, of, none⟩) n cap), KV.eq (.int .i64 (j : Int)), KV.eq (.pointer (some ⟨B, of + j * 2, none⟩)), KV.eq (.pointer (some ⟨B, of + j * 2, none⟩)), KV.eq (.int .i64 (z : Int)), KV.eq (.int .u64 (z : Int)), KV.any, KV.eq (.slice (some ⟨B, of, none⟩) n cap), KV.eq (.int .i64 (j : Int)), KV.eq (.pointer (some ⟨B, of + j * 2, none⟩)), KV.eq (.pointer (some ⟨B, of + j * 2 + 1, none⟩)), KV.eq x, KV.any, KV.any]) (Tw.mono _) [0, 7, 13, 14] (by decide) (by decide) (fun k i j h1 h2 => ?cp) (StC (fun b => v4.ownBlock = some b) W [some (4, l), some (47, l), some (54, l ++ be 4 z), some (60, l ++ be 4 z ++ bs), some (4, l ++ be 4 z ++ bs)]) ?st0 ?steps ?done
  case cp =>
    match k, h1, h2 with
    | 0, h1, h2 => simp at h1 h2; subst h1; subst h2; exact .one rfl (by kernel_rfl)
    | 1, h1, h2 => simp at h1 h2; subst h1; subst h2; exact .one rfl (by kernel_rfl)
    | 2, h1, h2 => simp at h1 h2; subst h1; subst h2; exact .one rfl (by kernel_rfl)
    | 3, h1, h2 => simp at h2
    | k + 4, h1, h2 => simp at h2
  case st0 =>
    intro s l' e
    simp at e
    obtain ⟨rfl, rfl⟩ := e
    rw [s4]
    exact hN.nw.kept (Fr.refl _ _).drew
  case steps =>
    have no : ∀ b, b < W0.heap.size → ¬ (v4.ownBlock = some b ∨ W.heap.size ≤ b) := fun b h1 h => by
      have h2 := hN.fr.size
      rcases h with h | h
      · have := hN.new b h; omega
      · omega
    have hBW : B < W.heap.size := Nat.lt_of_lt_of_le hB hN.fr.size
    have HC0 : ∀ w', RY (fun b => v4.ownBlock = some b ∨ W.heap.size ≤ b) W w' → w'.cell? ⟨B, of + j * 2, none⟩ = some (.int .i64 (z : Int)) := fun w' f => by rw [f.fr.cell hBW (no B hB)]; exact c0
    have HC1 : ∀ w', RY (fun b => v4.ownBlock = some b ∨ W.heap.size ≤ b) W w' → w'.cell? ⟨B, of + j * 2 + 1, none⟩ = some x := fun w' f => by rw [f.fr.cell hBW (no B hB)]; exact c1
    have HX : ∀ w', RY (fun b => v4.ownBlock = some b ∨ W.heap.size ≤ b) W w' → Rd w' x bs := fun w' f => hx0.kept f.fr (fun b e h => no b (hxo b e) h)
    refine ⟨?_, ?_⟩
    · intro a' w' k hb hR hst hck hle hd
      obtain rfl : 0 = k := hck 0 rfl
      have hn := hst 4 _ rfl
      exact .inl ⟨wanted_none rfl, ch_move (by decide) (.inl rfl) rfl rfl (by rw [hb.size, hsz]; decide) rfl hn (fun _ _ => trivial)⟩
    refine ⟨?_, ?_⟩
    · intro a' w' k hb hR hst hck hle hd
      exact .inl ⟨wanted_none rfl, la_val _ _ (by decide) (x_move rfl ((hb.old 0 (by decide +kernel)).trans s0)) rfl (RY.of_fr (Fr.refl _ _)) (hst.put rfl (Fr.refl _ _))⟩
    refine ⟨?_, ?_⟩
    · intro a' w' k hb hR hst hck hle hd
      exact .inl ⟨wanted_none rfl, la_val _ _ (by decide) (x_move rfl ((hb.old 5 (by decide +kernel)).trans s5)) rfl (RY.of_fr (Fr.refl _ _)) (hst.put rfl (Fr.refl _ _))⟩
    refine ⟨?_, ?_⟩
    · intro a' w' k hb hR hst hck hle hd
      have e0 : a'.tmps.getD 48 undef = .slice (some ⟨B, of, none⟩) n cap := hd 1 (by kernel_rfl) 48 rfl
      have e1 : a'.tmps.getD 49 undef = .int .i64 (j : Int) := hd 2 (by kernel_rfl) 49 rfl
      exact .inl ⟨wanted_none rfl, la_val _ _ (by decide) (x_idx28 (x := .tmp 48) (y := .tmp 49) rfl e0 e1 hj hnc) rfl (RY.of_fr (Fr.refl _ _)) (hst.put rfl (Fr.refl _ _))⟩
    refine ⟨?_, ?_⟩
    · intro a' w' k hb hR hst hck hle hd
      have e0 : a'.tmps.getD 50 undef = .pointer (some ⟨B, of + j * 2, none⟩) := hd 3 (by kernel_rfl) 50 rfl
      exact .inl ⟨wanted_none rfl, la_val _ _ (by decide) (x_fieldG0 (x := .tmp 50) rfl e0) rfl (RY.of_fr (Fr.refl _ _)) (hst.put rfl (Fr.refl _ _))⟩
    refine ⟨?_, ?_⟩
    · intro a' w' k hb hR hst hck hle hd
      exact .inl ⟨wanted_none rfl, la_val _ _ (by decide) (x_load1 ld3 rfl (hd 4 (by kernel_rfl) 51 rfl) (HC0 w' hR)) rfl (RY.of_fr (Fr.refl _ _)) (hst.put rfl (Fr.refl _ _))⟩
    refine ⟨?_, ?_⟩
    · intro a' w' k hb hR hst hck hle hd
      exact .inl ⟨wanted_none rfl, la_val _ _ (by decide) (x_conv rfl (hd 5 (by kernel_rfl) 52 rfl) (cv32 _ _ hz)) rfl (RY.of_fr (Fr.refl _ _)) (hst.put rfl (Fr.refl _ _))⟩
    refine ⟨?_, ?_⟩
    · intro a' w' k hb hR hst hck hle hd
      obtain rfl : 1 = k := hck 1 rfl
      have hn := hst 47 _ rfl
      have e1 : a'.tmps.getD 53 undef = .int .u64 (z : Int) := hd 6 (by kernel_rfl) 53 rfl
      exact .inl ⟨wanted_none rfl, ch_put (by decide) rfl rfl rfl e1 rfl (.inr (.inl rfl)) (by omega) (by omega) rfl (by rw [hb.size, hsz]; decide) rfl hn (fun _ _ => trivial)⟩
    refine ⟨?_, ?_⟩
    · intro a' w' k hb hR hst hck hle hd
      exact .inl ⟨wanted_none rfl, la_val _ _ (by decide) (x_move rfl ((hb.old 0 (by decide +kernel)).trans s0)) rfl (RY.of_fr (Fr.refl _ _)) (hst.put rfl (Fr.refl _ _))⟩
    refine ⟨?_, ?_⟩
    · intro a' w' k hb hR hst hck hle hd
      exact .inl ⟨wanted_none rfl, la_val _ _ (by decide) (x_move rfl ((hb.old 5 (by decide +kernel)).trans s5)) rfl (RY.of_fr (Fr.refl _ _)) (hst.put rfl (Fr.refl _ _))⟩
    refine ⟨?_, ?_⟩
    · intro a' w' k hb hR hst hck hle hd
      have e0 : a'.tmps.getD 55 undef = .slice (some ⟨B, of, none⟩) n cap := hd 8 (by kernel_rfl) 55 rfl
      have e1 : a'.tmps.getD 56 undef = .int .i64 (j : Int) := hd 9 (by kernel_rfl) 56 rfl
      exact .inl ⟨wanted_none rfl, la_val _ _ (by decide) (x_idx28 (x := .tmp 55) (y := .tmp 56) rfl e0 e1 hj hnc) rfl (RY.of_fr (Fr.refl _ _)) (hst.put rfl (Fr.refl _ _))⟩
    refine ⟨?_, ?_⟩
    · intro a' w' k hb hR hst hck hle hd
      have e0 : a'.tmps.getD 57 undef = .pointer (some ⟨B, of + j * 2, none⟩) := hd 10 (by kernel_rfl) 57 rfl
      exact .inl ⟨wanted_none rfl, la_val _ _ (by decide) (x_fieldG1 (x := .tmp 57) rfl e0) rfl (RY.of_fr (Fr.refl _ _)) (hst.put rfl (Fr.refl _ _))⟩
    refine ⟨?_, ?_⟩
    · intro a' w' k hb hR hst hck hle hd
      exact .inl ⟨wanted_none rfl, la_val _ _ (by decide) (x_load1 ld23 rfl (hd 11 (by kernel_rfl) 58 rfl) (HC1 w' hR)) rfl (RY.of_fr (Fr.refl _ _)) (hst.put rfl (Fr.refl _ _))⟩
    refine ⟨?_, ?_⟩
    · intro a' w' k hb hR hst hck hle hd
      obtain rfl : 2 = k := hck 2 rfl
      have hn := hst 54 _ rfl
      have e1 : a'.tmps.getD 59 undef = x := hd 12 (by kernel_rfl) 59 rfl
      exact .inl ⟨wanted_none rfl, ch_app (by decide) rfl rfl rfl e1 (HX w' hR) (by simp only [List.length_append, be_length]; omega) rfl (by rw [hb.size, hsz]; decide) rfl hn (fun _ _ => trivial)⟩
    refine ⟨?_, ?_⟩
    · intro a' w' k hb hR hst hck hle hd
      obtain rfl : 3 = k := hck 3 rfl
      have hn := hst 60 _ rfl
      exact .inl ⟨wanted_none rfl, ch_move (by decide) (.inr rfl) rfl rfl (by rw [hb.size, hsz]; decide) rfl hn (fun _ _ => trivial)⟩
    exact trivial
  case done =>
    intro a' w' hb hR hst hall
    have hn := hst 4 _ rfl
    have hfr := frame_eq (a := a') (vs := [.slice (some ⟨B, of, none⟩) n cap, u1, u2, u3, a'.tmps.getD 4 undef, .int .i64 (j : Int), u6, u7, u8, u9, u10, u11, u12, u13, u14, u15, u16, u17, u18, u19, u20, u21, u22, u23, u24, u25, u26, u27, u28, u29, u30, u31, u32, u33, u34, u35, u36, u37, u38, u39, u40, u41, u42, u43, u44, u45, u46, a'.tmps.getD 47 undef, a'.tmps.getD 48 undef, a'.tmps.getD 49 undef, a'.tmps.getD 50 undef, a'.tmps.getD 51 undef, a'.tmps.getD 52 undef, a'.tmps.getD 53 undef, a'.tmps.getD 54 undef, a'.tmps.getD 55 undef, a'.tmps.getD 56 undef, a'.tmps.getD 57 undef, a'.tmps.getD 58 undef, a'.tmps.getD 59 undef, a'.tmps.getD 60 undef, u61]) (by rw [hb.size, hsz]; rfl) (by rw [hb.defers, hdf]) ⟨(hb.old 0 (by decide +kernel)).trans (by rw [hA]; rfl), (hb.old 1 (by decide +kernel)).trans (by rw [hA]; rfl), (hb.old 2 (by decide +kernel)).trans (by rw [hA]; rfl), (hb.old 3 (by decide +kernel)).trans (by rw [hA]; rfl), rfl, (hb.old 5 (by decide +kernel)).trans (by rw [hA]; rfl), (hb.old 6 (by decide +kernel)).trans (by rw [hA]; rfl), (hb.old 7 (by decide +kernel)).trans (by rw [hA]; rfl), (hb.old 8 (by decide +kernel)).trans (by rw [hA]; rfl), (hb.old 9 (by decide +kernel)).trans (by rw [hA]; rfl), (hb.old 10 (by decide +kernel)).trans (by rw [hA]; rfl), (hb.old 11 (by decide +kernel)).trans (by rw [hA]; rfl), (hb.old 12 (by decide +kernel)).trans (by rw [hA]; rfl), (hb.old 13 (by decide +kernel)).trans (by rw [hA]; rfl), (hb.old 14 (by decide +kernel)).trans (by rw [hA]; rfl), (hb.old 15 (by decide +kernel)).trans (by rw [hA]; rfl), (hb.old 16 (by decide +kernel)).trans (by rw [hA]; rfl), (hb.old 17 (by decide +kernel)).trans (by rw [hA]; rfl), (hb.old 18 (by decide +kernel)).trans (by rw [hA]; rfl), (hb.old 19 (by decide +kernel)).trans (by rw [hA]; rfl), (hb.old 20 (by decide +kernel)).trans (by rw [hA]; rfl), (hb.old 21 (by decide +kernel)).trans (by rw [hA]; rfl), (hb.old 22 (by decide +kernel)).trans (by rw [hA]; rfl), (hb.old 23 (by decide +kernel)).trans (by rw [hA]; rfl), (hb.old 24 (by decide +kernel)).trans (by rw [hA]; rfl), (hb.old 25 (by decide +kernel)).trans (by rw [hA]; rfl), (hb.old 26 (by decide +kernel)).trans (by rw [hA]; rfl), (hb.old 27 (by decide +kernel)).trans (by rw [hA]; rfl), (hb.old 28 (by decide +kernel)).trans (by rw [hA]; rfl), (hb.old 29 (by decide +kernel)).trans (by rw [hA]; rfl), (hb.old 30 (by decide +kernel)).trans (by rw [hA]; rfl), (hb.old 31 (by decide +kernel)).trans (by rw [hA]; rfl), (hb.old 32 (by decide +kernel)).trans (by rw [hA]; rfl), (hb.old 33 (by decide +kernel)).trans (by rw [hA]; rfl), (hb.old 34 (by decide +kernel)).trans (by rw [hA]; rfl), (hb.old 35 (by decide +kernel)).trans (by rw [hA]; rfl), (hb.old 36 (by decide +kernel)).trans (by rw [hA]; rfl), (hb.old 37 (by decide +kernel)).trans (by rw [hA]; rfl), (hb.old 38 (by decide +kernel)).trans (by rw [hA]; rfl), (hb.old 39 (by decide +kernel)).trans (by rw [hA]; rfl), (hb.old 40 (by decide +kernel)).trans (by rw [hA]; rfl), (hb.old 41 (by decide +kernel)).trans (by rw [hA]; rfl), (hb.old 42 (by decide +kernel)).trans (by rw [hA]; rfl), (hb.old 43 (by decide +kernel)).trans (by rw [hA]; rfl), (hb.old 44 (by decide +kernel)).trans (by rw [hA]; rfl), (hb.old 45 (by decide +kernel)).trans (by rw [hA]; rfl), (hb.old 46 (by decide +kernel)).trans (by rw [hA]; rfl), rfl, rfl, rfl, rfl, rfl, rfl, rfl, rfl, rfl, rfl, rfl, rfl, rfl, rfl, (hb.old 61 (by decide +kernel)).trans (by rw [hA]; rfl), trivial⟩
    rw [hfr]
    exact unhide HQ _ _ _ _ _ _ _ _ _ _ _ _ _ _ _ w' (hN.then hn) hR.fr.size
end Go.Proofs.Ytgodlfoidjeekaa

namespace Go.Proofs.Ytgodlfoidjeekaa
set_option linter.unusedVariables false
set_option linter.unusedSimpArgs false
open Go.RowKit Go.Lib
set_option linter.unusedVariables false
set_option linter.unusedSimpArgs false

attribute [local go_sem ↓] Go.wp_at_zero Go.wp_at_succ

set_option maxHeartbeats 8000000 in
set_option maxRecDepth 100000 in
theorem rputTx_any (w : World) (v : Value) (ps : List (Int × List UInt8)) (h : RdP w v ps) (hl : ps.length ≤ 100000) : Calls Try.prog 17 #[v] w fun e w' => ∃ r c, e = .returned (.tuple #[r, .int .i64 c]) ∧ Pt ps w r c w' := by
  obtain ⟨ao, cap, rfl⟩ := h.shape
  have HH := hide h
  clear h
  obtain ⟨n, hn⟩ : ∃ n, n = ps.length := ⟨_, rfl⟩
  rw [← hn] at HH hl ⊢
  have HN := hide hn
  cases hct : ctB (n : Int)
  · have HP : Hid (ptB ps = false) := hide (by unfold ptB; rw [← hn, hct]; rfl)
    by_cases c1 : n < 1
    · have d1 : ((n : Nat) : Int) < 1 := by omega
      clear hn hl c1 hct
      go_enter Try.func17, Try.ntmps17
      go_wp2_with fail
      go_ret2
      exact ⟨_, _, rfl, Pt.no (unhide HP) (Fr.refl _ _)⟩
    · have d1 : ¬ (((n : Nat) : Int) < 1) := by omega
      have d2 : (64 : Int) < ((n : Nat) : Int) := by unfold ctB at hct; simp at hct; omega
      clear hn hl c1 hct
      go_enter Try.func17, Try.ntmps17
      go_wp2_with fail
      go_ret2
      exact ⟨_, _, rfl, Pt.no (unhide HP) (Fr.refl _ _)⟩
  · have h64 : 1 ≤ n ∧ n ≤ 64 := by unfold ctB at hct; simp at hct; omega
    obtain ⟨h1, h2⟩ := h64
    have d1 : ¬ (((n : Nat) : Int) < 1) := by omega
    have d2 : ¬ ((64 : Int) < ((n : Nat) : Int)) := by omega
    have e2 : IntKind.u64.wrap (n : Int) = (n : Int) := by simp [IntKind.wrap, IntKind.signed, IntKind.bits]; omega
    clear hn hl
    have HQ0 := hide (rputS_any _ w w _ [] 4 n (Nb.nil (Fr.refl (fun _ => False) w)).nw (.inr (.inl rfl)) (by simp) (by omega))
    go_enter Try.func17, Try.ntmps17
    go_wp2_with (go_at_call 52; refine (unhide HQ0).mono ?_; rintro e w2 ⟨v2, rfl, hv2⟩; have HV2 := hide ((Nb.nil (Fr.refl (fun _ => False) w)).then hv2); clear hv2)
    go_loopw [4, 5] (fun o y W => ∃ (j : Nat), j ≤ n ∧ y = .int .i64 (j : Int) ∧ Nb w W o (lay 4 [n] ++ pbs (ps.take j)) ∧ (ps.take j).all pOk = true) (fun _ y _ => n - (intOf y).toNat)
    case atStart => exact ⟨0, by omega, rfl, by simpa [pbs, lay] using unhide HV2, by simp⟩
    case round =>
      clear HV2 HQ0
      obtain ⟨j, hj, rfl, hNb, hok⟩ := hrel
      by_cases hlt : j < n
      · have jl : j < ps.length := by rw [← unhide HN]; exact hlt
        obtain ⟨B, o, rfl, hnc, hcm, hc⟩ := (unhide HH).lits (by omega)
        obtain ⟨c0, x, c1, hx⟩ := hc j jl
        have hB : B < w.heap.size := World.block_lt_of_cell? w _ c0
        have f := hNb.fr
        rw [← f.cell hB id] at c0 c1
        have hxw : ∀ b, x.ownBlock = some b → 0 < (ps[j]).2.length → b < w.heap.size := fun b e hp => by
          obtain ⟨xo, xc, rfl⟩ := hx.shape
          obtain ⟨g, of, rfl, -, -, -, hcc⟩ := hx.lits hp
          simp [Value.ownBlock] at e
          subst e
          exact World.block_lt_of_cell? w _ (hcc 0 hp)
        have HXW := hide hxw
        have HX := hide hx
        obtain ⟨xo, xc, rfl⟩ := hx.shape
        have HBAD := hide (fun h => ptB_bad jl h)
        have HTK := hide (pbs_take jl)
        have HOK := hide (ok_take jl hok)
        have HNB := hide hNb
        have HLEN : Hid ((lay 4 [n] ++ pbs (ps.take j)).length = 4 + 388 * j) := hide (by rw [List.length_append, pbs_length hok, lay_length, List.length_take]; simp; omega)
        have hjc : j < cap := by have := unhide HN; omega
        have F := hide f
        have HB0 := hide hB
        have HNC := hide (show n ≤ cap by have := unhide HN; omega)
        generalize ps[j] = pp at *
        obtain ⟨z, bs⟩ := pp
        simp only at c0 c1 HX HXW
        obtain ⟨m, hm⟩ : ∃ m, m = bs.length := ⟨_, rfl⟩
        rw [← hm] at c1 HX HXW
        have HM := hide hm
        clear hc hx hxw hNb hok f jl hcm hnc hm
        by_cases hz0 : z < 0
        · have HP := hide (unhide HBAD (by unfold pOk; simp; omega))
          clear HBAD HTK HOK HXW
          go_wp2_with fail
          go_ret2
          exact ⟨_, _, rfl, Pt.no (unhide HP) (unhide F)⟩
        · by_cases hz1 : z > 2147483647
          · have HP := hide (unhide HBAD (by unfold pOk; simp; omega))
            clear HBAD HTK HOK HXW
            go_wp2_with fail
            go_ret2
            exact ⟨_, _, rfl, Pt.no (unhide HP) (unhide F)⟩
          · by_cases hm : m = 384
            · obtain ⟨zn, rfl⟩ : ∃ zn : Nat, z = (zn : Int) := ⟨z.toNat, by omega⟩
              have HO2 := hide (unhide HOK (by have := unhide HM; unfold pOk; simp; omega))
              have HZ := hide (show zn < 4294967296 by omega)
              subst hm
              clear HBAD HOK
              go_upto_region 9 with fail
              refine gr17 (unhide HNB) (unhide HB0) hlt (unhide HNC) c0 c1 (unhide HZ) ((unhide HX).kept (unhide F) (fun _ _ h => h)) (fun b e => unhide HXW b e (by decide)) (by rw [unhide HLEN]; omega) (by have := unhide HM; omega) ?_
              intro y47 y48 y49 y50 y51 y52 y53 y54 y55 y56 y57 y58 y59 y60 v' W' hv' hsz'
              have HV := hide hv'
              clear hv' hsz' c0 c1 HNB HX F HXW
              go_wp2_with fail
              go_roundw
              case rel =>
                refine ⟨j + 1, by omega, by go_num, ?_, unhide HO2⟩
                have h9 := unhide HTK
                simp only [Int.toNat_natCast] at h9
                rw [h9, ← List.append_assoc, ← List.append_assoc]
                simpa [lay] using unhide HV
              case measure => simp [intOf]; omega
            · have HP := hide (unhide HBAD (by have := unhide HM; unfold pOk; simp; omega))
              have dm : ((m : Int) == 384) = false := by simp; omega
              have dm2 : ¬ ((m : Int) = 384) := by omega
              clear HBAD HTK HOK HXW
              go_wp2_with fail
              go_ret2
              exact ⟨_, _, rfl, Pt.no (unhide HP) (unhide F)⟩
      · obtain rfl : n = j := by omega
        have hpl : lay 4 [n] ++ pbs (ps.take n) = ptL ps := by
          have := unhide HN
          rw [List.take_of_length_le (by omega), this]; rfl
        rw [hpl] at hNb
        have HP := hide hNb
        have HT : Hid (ptB ps = true) := hide (by
          have := unhide HN
          rw [List.take_of_length_le (by omega)] at hok
          unfold ptB
          rw [← this, hct, hok]; rfl)
        clear hNb hok
        go_wp2_with fail
        go_ret2
        exact ⟨_, _, rfl, Pt.ok (unhide HT) (unhide HP)⟩
end Go.Proofs.Ytgodlfoidjeekaa

namespace Go.Proofs.Ytgodlfoidjeekaa
set_option linter.unusedVariables false
set_option linter.unusedSimpArgs false
open Go.RowKit
set_option linter.unusedVariables false
set_option linter.unusedSimpArgs false

attribute [local go_sem ↓] Go.wp_at_zero Go.wp_at_succ

theorem lg_few {l : List Ac} (h : lgB l = false) : l.length ≤ 30 ∧ ∀ j (hj : j < l.length), (l[j]).tx.length ≤ 300 := by
  unfold lgB at h
  simp only [Bool.or_eq_false_iff, decide_eq_false_iff_not] at h
  obtain ⟨⟨h1, h2⟩, -⟩ := h
  refine ⟨by omega, fun j hj => ?_⟩
  have hm : min l.length 31 = l.length := by omega
  rw [hm] at h2
  have h3 : ∀ k, j + 1 + k ≤ l.length → lgN l (j + 1) ≤ lgN l (j + 1 + k) := by
    intro k
    induction k with
    | zero => intro _; exact Nat.le_refl _
    | succ k ih =>
      intro hk
      have := ih (by omega)
      have := lgN_succ l (j + 1 + k) (by omega)
      rw [show j + 1 + (k + 1) = j + 1 + k + 1 by omega]
      omega
  have h4 := h3 (l.length - (j + 1)) (by omega)
  rw [show j + 1 + (l.length - (j + 1)) = l.length by omega] at h4
  have h5 := lgN_succ l j hj
  omega
theorem X00_fr {w a b : World} (f : Fr (Zs X00 w a) a b) (hw : Fr (fun _ => False) w a) : Fr (fun _ => False) w b := hw.trans f (fun k hk e => by
  rcases e.2 with e | e
  · exact e.elim
  · omega)
theorem of_zs {w a b : World} {v : Value} {xs : List Nat} (h : Of a v xs) (f : Fr (Zs X00 w a) a b) : Of b v xs := h.kept f (fun k e z => by
  have := (h.knd k e).1
  have z1 := z.1
  unfold KD KJ at z1
  omega)
theorem js_other {X : Nat → Prop} {w0 w w' : World} {j s : Nat} {J : Jn} {D : Dv} {S : Nat → Prop} (h : JS X w0 w j s J D) (f : Fr S w w') (hS : ∀ k, S k → knd w k = 3) : JS X w0 w' j s J D := by
  obtain ⟨⟨mv, sv, qv, hJ, hD, hB⟩, ok, sz⟩ := h
  exact ⟨⟨mv, sv, qv, hJ.kept f (fun k e z => by have a := hJ.knds e; have b := hS k z; unfold KJ at a; omega), hD.kept f (fun k e z => by have a := hD.knds e; have b := hS k z; unfold KD at a; omega), hB⟩, ok, Nat.le_trans sz f.size⟩
theorem apD_len (J : Jn) (D : Dv) (ps : List (Int × List UInt8)) : (apD J D ps).S.length = D.S.length := by
  unfold apD
  split
  · split
    · exact (weI_len _ _ _ _ _ _).1
    · rfl
  · rfl
theorem x_app73 {ρ : Operand → Value} {o : Oper} {w : World} {x y : Operand} {a b v : Value} {w2 : World} (ho : o.op = .call { callee := .builtin .append, args := #[x, y], argTypes := #[73, 73] }) (hty : o.type = 73) (hx : ρ x = a) (hy : ρ y = b) (hr : (Builtin.append_ #[73, 73] 73 #[a, b]).run Try.prog w = .ok v w2) : (execOp ρ o).run Try.prog w = .ok (.value v) w2 := by
  simp only [execOp, ho, hty, resolve, invoke, builtin, Sem.run_bind, Sem.run_pure, Result.andThen_ok, List.map_toArray, List.map_cons, List.map_nil, hx, hy, hr]
set_option maxRecDepth 100000 in
set_option maxHeartbeats 8000000 in
theorem journalRoom_any (w : World) (count : Int) (v : Value) (l : List Ac) (h : RdJ w v l) (hl : l.length ≤ 1048576) :
    Calls Try.prog 7 #[.int .i64 count, v] w fun e w' => e = .returned (.bool true) ∧ Fr (fun _ => False) w w' := by
  have HH := hide h
  have HLG := hide (long_any w v l h hl)
  obtain ⟨ao, cap, rfl⟩ := h.shape
  clear h
  go_enter Try.func7, Try.ntmps7
  go_wp2_with fail
  refine (unhide HLG).mono ?_
  rintro e w1 ⟨rfl, f1⟩
  have HF1 := hide f1
  clear f1 HLG
  rcases hlg : lgB l with _ | _
  case true =>
    go_wp2_with fail
    refine (live_any _).mono ?_
    rintro e w2 ⟨rfl, f2⟩
    go_wp2_with fail
    go_ret
    exact ⟨rfl, (unhide HF1).trans f2 (fun _ _ e => e)⟩
  obtain ⟨h30, h300⟩ := lg_few hlg
  have HFEW := hide h300
  clear hlg h300
  by_cases hc : count < 6 ∨ 40 < count
  · go_wp2_with fail
    refine (begun_no _ count hc).mono ?_
    rintro e w2 ⟨rfl, rfl⟩
    rcases hc with hc | hc
    · go_wp2_with fail
      refine (live_any _).mono ?_
      rintro e w2 ⟨rfl, f2⟩
      go_wp2_with fail
      go_ret
      exact ⟨rfl, (unhide HF1).trans f2 (fun _ _ e => e)⟩
    · by_cases hc6 : count < 6
      · omega
      · go_wp2_with fail
        refine (live_any _).mono ?_
        rintro e w2 ⟨rfl, f2⟩
        go_wp2_with fail
        go_ret
        exact ⟨rfl, (unhide HF1).trans f2 (fun _ _ e => e)⟩
  obtain ⟨c, rfl⟩ : ∃ c : Nat, count = (c : Int) := ⟨count.toNat, by omega⟩
  have hc6 : 6 ≤ c := by omega
  have hc40 : c ≤ 40 := by omega
  clear hc
  have HBG := hide (begun_any w1 c hc6 hc40)
  go_wp2_with fail
  refine (unhide HBG).mono ?_
  rintro e w2 ⟨s, j, J0, D0, rfl, hJ0, hR0, hL0, f2⟩
  have HJ0 := hide hJ0
  have HR0 := hide hR0
  have HL0 := hide hL0
  have HF2 := hide (X00_fr f2 (Fr.refl _ _))
  have HW1 := hide (unhide HF1).size
  clear hJ0 hR0 hL0 f2 HBG
  go_wp2_with fail
  have k1 : IntKind.i64.wrap ((c : Int) - 2) = ((c - 2 : Nat) : Int) := by
    have := wrapI (c - 2) (by omega)
    rw [show (c : Int) - 2 = ((c - 2 : Nat) : Int) by omega]
    exact this
  go_loopw [7, 8, 9] (fun x y z W => ∃ i : Nat, i ≤ l.length ∧ z = .int .i64 (i : Int) ∧ ∃ J D xs, JS X00 w1 W j s J D ∧ Rm c i J D xs ∧ D.S.length = c ∧ Of W x xs ∧ (∀ b, x.ownBlock = some b → w1.heap.size ≤ b) ∧ y = .int .i64 ((xs.sum : Nat) : Int) ∧ Fr (fun _ => False) w1 W) (fun _ _ z _ => l.length - (intOf z).toNat)
  case atStart => exact ⟨0, Nat.zero_le _, rfl, J0, D0, [], unhide HJ0, unhide HR0, unhide HL0, Of.nil _, fun b e => by simp [Value.ownBlock] at e, rfl, unhide HF2⟩
  case round =>
    obtain ⟨i, hi, rfl, J, D, xs, hJ, hR, hSL, hO, hOW, rfl, hF⟩ := hrel
    clear HJ0 HR0 HL0 HF2
    have HJ := hide hJ
    have HR := hide hR
    have HSL := hide hSL
    have HOK := hide hJ.ok
    have HO := hide hO
    have HOW := hide hOW
    have HF := hide hF
    have hxl : xs.length ≤ i := by
      have h1 := hR.at.2
      have h2 := hR.lst
      unfold Jn.lst at h2
      omega
    obtain ⟨no, nc, rfl⟩ := hO.shape
    clear hJ hR hO hOW hF
    by_cases hlt : i < l.length
    case neg =>
      have q0 : ¬ (i : Int) < (l.length : Int) := by omega
      clear HJ HR HSL HO HOW
      go_wp2_with fail
      refine (live_any _).mono ?_
      rintro e w3 ⟨rfl, f3⟩
      go_wp2_with fail
      go_ret
      exact ⟨rfl, (unhide HF1).trans ((unhide HF).trans f3 (fun _ _ e => e)) (fun _ _ e => e)⟩
    have q0 : (i : Int) < (l.length : Int) := by omega
    obtain ⟨B, o, cap', tv, kv, y1, q1, hin, hB, c0, c1, rt, c2, c3, rk, c4⟩ := (unhide HH).get ((unhide HF1).trans (unhide HF) (fun _ _ e => e)) (fun _ _ e => e) i hlt
    simp at y1
    obtain ⟨rfl, rfl⟩ := y1
    obtain ⟨xo, xc, rfl⟩ := rt.shape
    obtain ⟨ko, kc, rfl⟩ := rk.shape
    have hfew := unhide HFEW i hlt
    obtain ⟨a, ha⟩ : ∃ a, a = l[i] := ⟨_, rfl⟩
    rw [← ha] at hin c0 c1 rt c2 c3 rk c4 hfew
    rw [List.length_map] at c3
    have hrg : wr.rangeAt B (o + i * 5) [.int .i64 a.k, .slice xo a.tx.length xc, .int .u64 (a.lsn : Int), .slice ko a.keep.length kc, .int .i64 a.fail] := by
      intro q u hq
      have hq5 : q < 5 := (List.getElem?_eq_some_iff.1 hq).1
      rcases (by omega : q = 0 ∨ q = 1 ∨ q = 2 ∨ q = 3 ∨ q = 4) with rfl | rfl | rfl | rfl | rfl
      · simp at hq; subst hq; exact c0
      · simp at hq; subst hq; exact c1
      · simp at hq; subst hq; exact c2
      · simp at hq; subst hq; exact c3
      · simp at hq; subst hq; exact c4
    have HRG := hide hrg
    have HIN := hide hin
    have RT := hide rt
    have hls := hin.lsn
    clear ha hin c0 c1 rt c2 c3 rk c4 hrg
    obtain ⟨tx, htx⟩ : ∃ t, t = a.tx := ⟨_, rfl⟩
    have HTD := hide (unhide HIN).data
    rw [← htx] at RT hfew HRG HTD
    generalize a.k = kd at *
    generalize a.lsn = lsn at *
    generalize a.fail = fl at *
    generalize a.keep.length = kl at *
    clear htx HIN
    go_upto_region 12 with (refine wpList_load_mid rfl 75 (.tmp 48) rfl B (o + i * 5) rfl _ _ (unhide HRG) Try.underlying75 rfl (by kernel_rfl) ?_)
    have fA : Fr (fun _ => False) wr (wr.alloc (.cells #[.int .i64 kd, .slice xo tx.length xc, .int .u64 (lsn : Int), .slice ko kl kc, .int .i64 fl] 75)) := (Fr.refl _ _).alloc _
    have HA3 := hide (heap_alloc_new wr (.cells #[.int .i64 kd, .slice xo tx.length xc, .int .u64 (lsn : Int), .slice ko kl kc, .int .i64 fl] 75))
    have HJ3 := hide ((unhide HJ).kept0 fA)
    have HO3 := hide ((unhide HO).kept fA (fun _ _ e => e))
    have HF3 := hide ((unhide HF).trans fA (fun _ _ e => e))
    have RT3 := hide (rdp_kept (unhide RT) fA)
    refine wp_world ?_
    intro w3 hw3
    rw [← hw3] at HA3 HJ3 HO3 HF3 RT3
    obtain ⟨b10, hb10⟩ : ∃ b, b = wr.heap.size := ⟨_, rfl⟩
    rw [← hb10] at HA3 ⊢
    clear hw3 hb10 fA HJ HO HF RT HRG
    have a0 := cell_of_heap (unhide HA3) 0
    have a1 := cell_of_heap (unhide HA3) 1
    have a2 := cell_of_heap (unhide HA3) 2
    simp at a0 a1 a2
    have hlt3 := lt_of_heap (unhide HA3)
    obtain ⟨S0, hS0⟩ : ∃ S, S = xs.sum := ⟨_, rfl⟩
    rw [← hS0]
    have HS0 := hide hS0
    have HS40 : Hid (xs.sum ≤ 40) := hide (by have := ((unhide HR).room (unhide HOK)).2; omega)
    clear hS0
    by_cases hk1 : kd = 1
    · subst hk1
      have RTL : Hid (tx.length ≤ 100000) := hide (by omega)
      go_wp2_with fail
      refine (rputTx_any w3 _ tx (unhide RT3) (unhide RTL)).mono ?_
      rintro e w4 ⟨r, cc, rfl, hp⟩
      obtain ⟨rfl, hR4, f4⟩ := hp.one
      obtain ⟨ro, rc, rfl⟩ := hR4.shape
      have a1' := (f4.cell (a := ⟨b10, 1, none⟩) hlt3 id).trans a1
      have HJ4 := hide ((unhide HJ3).kept0 f4)
      have HO4 := hide ((unhide HO3).kept f4 (fun _ _ e => e))
      have HF4 := hide ((unhide HF3).trans f4 (fun _ _ e => e))
      have RT4 := hide (rdp_kept (unhide RT3) f4)
      clear hp hR4 f4 HJ3 HO3 HF3 RT3 HA3 a0 a1 a2 hlt3
      go_wp2_with fail
      refine (need_any w4 (tx.length : Int)).mono ?_
      rintro e w9 ⟨rfl, rfl⟩
      go_wp2_with fail
      refine (own_any w4 _ tx (unhide RT4) (by have := unhide RTL; omega) (fun p h => by have := unhide HTD p h; omega)).mono ?_
      rintro e w5 ⟨r5, rfl, hO5, f5⟩
      obtain ⟨r5o, r5c, rfl⟩ := hO5.shape
      have hq := (unhide HR).q
      have HAP := hide (append_any w5 j s J D _ tx ((unhide HJ4).kept0 f5) hO5.rdp (unhide RTL) (by omega))
      have HO5 := hide ((unhide HO4).kept f5 (fun _ _ e => e))
      have HF5 := hide ((unhide HF4).trans f5 (fun _ _ e => e))
      clear hO5 f5 HJ4 HO4 HF4 RT4 a1' hq
      go_wp2_with fail
      refine (unhide HAP).mono ?_
      rintro e w6 ⟨rfl, hJ6, f6⟩
      have HO6 := hide (of_zs (w := w1) (unhide HO5) f6)
      have HF6 := hide (X00_fr f6 (unhide HF5))
      have hroom := (unhide HR).room (unhide HOK)
      rw [← unhide HS0] at hroom
      have HSL6 := hide ((apD_len J D tx).trans (unhide HSL))
      have hi40 : i ≤ 40 := by omega
      have kS : IntKind.i64.wrap (((c - 2 : Nat) : Int) - (S0 : Int)) = ((c - 2 - S0 : Nat) : Int) := by
        have := wrapI (c - 2 - S0) (by omega)
        rw [show ((c - 2 : Nat) : Int) - (S0 : Int) = ((c - 2 - S0 : Nat) : Int) by omega]
        exact this
      clear HAP f6 HSL
      by_cases hpt : ptB tx = true
      · have hpc : pxC tx = 0 := by unfold pxC; rw [if_pos hpt]
        obtain ⟨hnx, hn1, hn2⟩ := need_apN hpt
        rw [hpc, hnx]
        by_cases hfit : apN tx ≤ J.room
        · obtain ⟨e0, hR7⟩ := (unhide HR).append (unhide HOK) hi40 hpt hfit
          rw [e0]
          have HR7 := hide hR7
          have HJ6 := hide hJ6
          rw [hroom.1] at hfit
          obtain ⟨n, hn⟩ : ∃ n, n = apN tx := ⟨_, rfl⟩
          rw [← hn] at HR7 hfit hn1 hn2 ⊢
          have qf : (n : Int) ≤ ((c - 2 - S0 : Nat) : Int) := by omega
          have hA6 := heap_alloc_new w6 (.cells #[.int .i64 (n : Int)] 3)
          have fA6 : Fr (fun _ => False) w6 (w6.alloc (.cells #[.int .i64 (n : Int)] 3)) := (Fr.refl _ _).alloc _
          obtain ⟨v7, w7, hr, hO7, f7, hn7⟩ := run_appI (w6.alloc (.cells #[.int .i64 (n : Int)] 3)) _ xs ((unhide HO6).kept fA6 (fun _ _ e => e)) n w6.heap.size hA6 (by omega)
          obtain ⟨v7o, v7c, rfl⟩ := hO7.shape
          have hxl7 : (xs ++ [n]).length = xs.length + 1 := by simp
          rw [hxl7] at hr hO7 hn7
          have hs6 := fA6.size
          have HOW7 : Hid (∀ b, (Value.slice v7o (xs.length + 1) v7c).ownBlock = some b → w1.heap.size ≤ b) := hide (fun b hb => by
            rcases hn7 with e | e
            · rw [e] at hb; exact unhide HOW b hb
            · rw [e] at hb; simp at hb; have := (unhide HF6).size; omega)
          have HJ7 := hide (js_other ((unhide HJ6).kept0 fA6) f7 (fun k e => (((unhide HO6).kept fA6 (fun _ _ e => e)).knd k e).1))
          have HF7 := hide (((unhide HF6).trans fA6 (fun _ _ e => e)).trans f7 (fun k hk e => by have := unhide HOW k e; omega))
          have HO7 := hide hO7
          have HRA := hide hr
          obtain ⟨S1, hS1⟩ : ∃ S, S = S0 + n := ⟨_, rfl⟩
          have kA : IntKind.i64.wrap ((S0 : Int) + (n : Int)) = (S1 : Int) := by
            have := wrapI S1 (by omega)
            rw [show (S0 : Int) + (n : Int) = (S1 : Int) by omega]
            exact this
          have HS1 : Hid (S1 = (xs ++ [n]).sum) := hide (by rw [hS1, unhide HS0]; simp)
          have HSL := HSL6
          clear hJ6 hR7 e0 hpc hnx hn HJ6 HO6 HF6 hA6 fA6 hr hO7 f7 hn7 hs6 HR HSL6 hS1 hpt hroom HOW
          go_wp2_with (first | (go_at_call 18; refine (num_any _ _).mono ?_; rintro e w9 ⟨rfl, rfl⟩) | (at_builtin; refine wl_x (wanted_none rfl) (x_app73 rfl rfl rfl rfl (unhide HRA)) ?_))
          obtain ⟨⟨mvT, svT, qvT, hJT, -, -⟩, okT, -⟩ := unhide HJ7
          have hrT := room_any _ j s mvT _ _ hJT okT
          have hroT := (unhide HR7).room okT
          rw [hroT.1] at hrT
          have HRT := hide hrT
          have kT : IntKind.i64.wrap (((c - 2 : Nat) : Int) - ((S1 : Nat) : Int)) = ((c - 2 - (xs ++ [n]).sum : Nat) : Int) := by
            have e1 : S1 = (xs ++ [n]).sum := unhide HS1
            have e2 := hroT.2
            have := wrapI (c - 2 - (xs ++ [n]).sum) (by omega)
            rw [e1, show ((c - 2 : Nat) : Int) - (((xs ++ [n]).sum : Nat) : Int) = ((c - 2 - (xs ++ [n]).sum : Nat) : Int) by omega]
            exact this
          clear hJT okT hrT hroT
          go_wp2_with (go_at_call 18; refine (num_any _ _).mono ?_; rintro e w9 ⟨rfl, rfl⟩)
          refine (unhide HRT).mono ?_
          rintro e wT ⟨rfl, fT⟩
          have HJS9 := hide ((unhide HJ7).kept0 fT)
          have HOF9 := hide ((unhide HO7).kept fT (fun _ _ e => e))
          have HF9 := hide ((unhide HF7).trans fT (fun _ _ e => e))
          clear fT HRT
          generalize c - 2 - (xs ++ [n]).sum = rT at *
          go_wp2_with fail
          go_roundw
          case rel => exact ⟨i + 1, by omega, by go_num, _, _, xs ++ [n], unhide HJS9, unhide HR7, unhide HSL, unhide HOF9, unhide HOW7, by rw [show S1 = (xs ++ [n]).sum from unhide HS1], unhide HF9⟩
          case measure => simp [intOf]; omega
        · obtain ⟨e0, e1, e2⟩ := ap_no (J := J) (D := D) (ps := tx) (fun h => hfit h.2)
          rw [e1, e2] at hJ6
          have HJ6 := hide hJ6
          rw [hroom.1] at hfit
          obtain ⟨E, hE⟩ : ∃ E, E = (apE J D tx).2 := ⟨_, rfl⟩
          rw [← hE] at e0 ⊢
          have bE : (E == 0) = false := by simpa using e0
          obtain ⟨n, hn⟩ : ∃ n, n = apN tx := ⟨_, rfl⟩
          rw [← hn] at hfit ⊢
          have qf : ¬ (n : Int) ≤ ((c - 2 - S0 : Nat) : Int) := by omega
          have HR7 := hide (unhide HR).mono
          have HSL := hide (show D.S.length = c by have := unhide HSL6; rwa [e2] at this)
          clear hJ6 e1 e2 hpc hnx hn hE HR HSL6 hpt hroom
          obtain ⟨⟨mvT, svT, qvT, hJT, -, -⟩, okT, -⟩ := unhide HJ6
          have hrT := room_any _ j s mvT _ _ hJT okT
          have hroT := (unhide HR7).room okT
          rw [hroT.1] at hrT
          have HRT := hide hrT
          have kT : IntKind.i64.wrap (((c - 2 : Nat) : Int) - ((S0 : Nat) : Int)) = ((c - 2 - (xs).sum : Nat) : Int) := by
            have e1 : S0 = (xs).sum := unhide HS0
            have e2 := hroT.2
            have := wrapI (c - 2 - (xs).sum) (by omega)
            rw [e1, show ((c - 2 : Nat) : Int) - (((xs).sum : Nat) : Int) = ((c - 2 - (xs).sum : Nat) : Int) by omega]
            exact this
          clear hJT okT hrT hroT
          go_wp2_with (go_at_call 18; refine (num_any _ _).mono ?_; rintro e w9 ⟨rfl, rfl⟩)
          refine (unhide HRT).mono ?_
          rintro e wT ⟨rfl, fT⟩
          have HJS9 := hide ((unhide HJ6).kept0 fT)
          have HOF9 := hide ((unhide HO6).kept fT (fun _ _ e => e))
          have HF9 := hide ((unhide HF6).trans fT (fun _ _ e => e))
          clear fT HRT
          generalize c - 2 - (xs).sum = rT at *
          go_wp2_with fail
          go_roundw
          case rel => exact ⟨i + 1, by omega, by go_num, _, _, xs, unhide HJS9, unhide HR7, unhide HSL, unhide HOF9, unhide HOW, by rw [show S0 = (xs).sum from unhide HS0], unhide HF9⟩
          case measure => simp [intOf]; omega
      · have hpc : pxC tx = 82 := by unfold pxC; rw [if_neg hpt]
        rw [hpc]
        obtain ⟨e0, e1, e2⟩ := ap_no (J := J) (D := D) (ps := tx) (fun h => hpt h.1)
        rw [e1, e2] at hJ6
        have HJ6 := hide hJ6
        obtain ⟨E, hE⟩ : ∃ E, E = (apE J D tx).2 := ⟨_, rfl⟩
        rw [← hE] at e0 ⊢
        have bE : (E == 0) = false := by simpa using e0
        have HR7 := hide (unhide HR).mono
        have HSL := hide (show D.S.length = c by have := unhide HSL6; rwa [e2] at this)
        generalize needX (tx.length : Int) = nx at *
        clear hJ6 e1 e2 hpc hE HR HSL6 hpt hroom
        obtain ⟨⟨mvT, svT, qvT, hJT, -, -⟩, okT, -⟩ := unhide HJ6
        have hrT := room_any _ j s mvT _ _ hJT okT
        have hroT := (unhide HR7).room okT
        rw [hroT.1] at hrT
        have HRT := hide hrT
        have kT : IntKind.i64.wrap (((c - 2 : Nat) : Int) - ((S0 : Nat) : Int)) = ((c - 2 - (xs).sum : Nat) : Int) := by
          have e1 : S0 = (xs).sum := unhide HS0
          have e2 := hroT.2
          have := wrapI (c - 2 - (xs).sum) (by omega)
          rw [e1, show ((c - 2 : Nat) : Int) - (((xs).sum : Nat) : Int) = ((c - 2 - (xs).sum : Nat) : Int) by omega]
          exact this
        clear hJT okT hrT hroT
        go_wp2_with (go_at_call 18; refine (num_any _ _).mono ?_; rintro e w9 ⟨rfl, rfl⟩)
        refine (unhide HRT).mono ?_
        rintro e wT ⟨rfl, fT⟩
        have HJS9 := hide ((unhide HJ6).kept0 fT)
        have HOF9 := hide ((unhide HO6).kept fT (fun _ _ e => e))
        have HF9 := hide ((unhide HF6).trans fT (fun _ _ e => e))
        clear fT HRT
        generalize c - 2 - (xs).sum = rT at *
        go_wp2_with fail
        go_roundw
        case rel => exact ⟨i + 1, by omega, by go_num, _, _, xs, unhide HJS9, unhide HR7, unhide HSL, unhide HOF9, unhide HOW, by rw [show S0 = (xs).sum from unhide HS0], unhide HF9⟩
        case measure => simp [intOf]; omega
    by_cases hk2 : kd = 2
    · subst hk2
      go_wp2_with fail
      refine (sync_any (H := unhide HJ3)).mono ?_
      rintro e w4 ⟨rfl, hJ4, f4⟩
      have HJ4 := hide hJ4
      have HO4 := hide (of_zs (w := w1) (unhide HO3) f4)
      have HF4 := hide (X00_fr f4 (unhide HF3))
      have HR4 := hide (unhide HR).sync
      have HSL2 := hide ((flD_len D).trans (unhide HSL))
      clear hJ4 f4 HJ3 HO3 HF3 RT3 HA3 a0 a1 a2 hlt3 HR HSL
      have HSL := HSL2
      clear HSL2
      obtain ⟨⟨mvT, svT, qvT, hJT, -, -⟩, okT, -⟩ := unhide HJ4
      have hrT := room_any _ j s mvT _ _ hJT okT
      have hroT := (unhide HR4).room okT
      rw [hroT.1] at hrT
      have HRT := hide hrT
      have kT : IntKind.i64.wrap (((c - 2 : Nat) : Int) - ((S0 : Nat) : Int)) = ((c - 2 - (xs).sum : Nat) : Int) := by
        have e1 : S0 = (xs).sum := unhide HS0
        have e2 := hroT.2
        have := wrapI (c - 2 - (xs).sum) (by omega)
        rw [e1, show ((c - 2 : Nat) : Int) - (((xs).sum : Nat) : Int) = ((c - 2 - (xs).sum : Nat) : Int) by omega]
        exact this
      clear hJT okT hrT hroT
      go_wp2_with (go_at_call 18; refine (num_any _ _).mono ?_; rintro e w9 ⟨rfl, rfl⟩)
      refine (unhide HRT).mono ?_
      rintro e wT ⟨rfl, fT⟩
      have HJS9 := hide ((unhide HJ4).kept0 fT)
      have HOF9 := hide ((unhide HO4).kept fT (fun _ _ e => e))
      have HF9 := hide ((unhide HF4).trans fT (fun _ _ e => e))
      clear fT HRT
      generalize c - 2 - (xs).sum = rT at *
      go_wp2_with fail
      go_roundw
      case rel => exact ⟨i + 1, by omega, by go_num, _, _, xs, unhide HJS9, unhide HR4, unhide HSL, unhide HOF9, unhide HOW, by rw [show S0 = (xs).sum from unhide HS0], unhide HF9⟩
      case measure => simp [intOf]; omega
    by_cases hk3 : kd = 3
    · subst hk3
      obtain ⟨⟨mv3, sv3, qv3, hJa, -, -⟩, ok3, -⟩ := unhide HJ3
      have HTR := hide (trimmed_any w3 j s mv3 J hJa)
      have hq := (unhide HR).q
      have HTM := hide (trim_any w3 j s J D lsn hls (unhide HJ3) (by omega) (unhide HR).syn)
      obtain ⟨t0, t1⟩ := (unhide HR).trim (k := lsn) (unhide HOK) (show i ≤ 40 by omega)
      have T0 := hide t0
      have T1 := hide t1
      have HSL6 := hide ((tmD_len J D lsn).trans (unhide HSL))
      have hlb := ok3.sup.2.2.2.1
      obtain ⟨sl, hsl⟩ : ∃ sl, sl = J.sup.l := ⟨_, rfl⟩
      rw [← hsl] at HTR T0 hlb
      clear hJa ok3 hq t0 t1 hsl RT3 a1 HSL
      go_wp2_with fail
      refine (unhide HTR).mono ?_
      rintro e w9 ⟨rfl, rfl⟩
      clear HTR
      go_wp2_with fail
      refine (unhide HTM).mono ?_
      rintro e w4 ⟨rfl, hJ4, f4⟩
      have HJ4 := hide hJ4
      have HO4 := hide (of_zs (w := w1) (unhide HO3) f4)
      have HF4 := hide (X00_fr f4 (unhide HF3))
      have a2' : w4.cell? ⟨b10, 2, none⟩ = some (.int .u64 (lsn : Int)) := (f4.cell (a := ⟨b10, 2, none⟩) hlt3 (fun z => by
        have := z.1
        rw [knd_cells (unhide HA3)] at this
        unfold KD KJ at this
        omega)).trans a2
      have HSL := HSL6
      clear hJ4 f4 HJ3 HO3 HF3 HA3 a2 hlt3 HSL6 HTM
      by_cases hE : tmE J D lsn = 0
      case neg =>
        have HR4 := hide (unhide T1 hE)
        obtain ⟨E, hE2⟩ : ∃ E, E = tmE J D lsn := ⟨_, rfl⟩
        rw [← hE2] at hE ⊢
        have bE : (E == 0) = false := by simpa using hE
        clear HR T0 T1 hE2
        obtain ⟨⟨mvT, svT, qvT, hJT, -, -⟩, okT, -⟩ := unhide HJ4
        have hrT := room_any _ j s mvT _ _ hJT okT
        have hroT := (unhide HR4).room okT
        rw [hroT.1] at hrT
        have HRT := hide hrT
        have kT : IntKind.i64.wrap (((c - 2 : Nat) : Int) - ((S0 : Nat) : Int)) = ((c - 2 - (xs).sum : Nat) : Int) := by
          have e1 : S0 = (xs).sum := unhide HS0
          have e2 := hroT.2
          have := wrapI (c - 2 - (xs).sum) (by omega)
          rw [e1, show ((c - 2 : Nat) : Int) - (((xs).sum : Nat) : Int) = ((c - 2 - (xs).sum : Nat) : Int) by omega]
          exact this
        clear hJT okT hrT hroT
        go_wp2_with (go_at_call 18; refine (num_any _ _).mono ?_; rintro e w9 ⟨rfl, rfl⟩)
        refine (unhide HRT).mono ?_
        rintro e wT ⟨rfl, fT⟩
        have HJS9 := hide ((unhide HJ4).kept0 fT)
        have HOF9 := hide ((unhide HO4).kept fT (fun _ _ e => e))
        have HF9 := hide ((unhide HF4).trans fT (fun _ _ e => e))
        clear fT HRT
        generalize c - 2 - (xs).sum = rT at *
        go_wp2_with fail
        go_roundw
        case rel => exact ⟨i + 1, by omega, by go_num, _, _, xs, unhide HJS9, unhide HR4, unhide HSL, unhide HOF9, unhide HOW, by rw [show S0 = (xs).sum from unhide HS0], unhide HF9⟩
        case measure => simp [intOf]; omega
      rw [hE]
      obtain ⟨g1, g2, g3⟩ := unhide T0 hE
      have HR4 := hide g3
      obtain ⟨k, hk⟩ : ∃ k, k = lsn - sl := ⟨_, rfl⟩
      rw [← hk] at g1 HR4
      clear HR T0 T1 g3 hE
      go_wp2_with (go_at_call 18; refine (num_any _ _).mono ?_; rintro e w9 ⟨rfl, rfl⟩)
      have A2 := hide a2'
      go_loopw [7, 8, 16] (fun x y u W => W = w4 ∧ ∃ q, q ≤ k ∧ u = .int .u64 ((sl + q : Nat) : Int) ∧ y = .int .i64 (((xs.drop q).sum : Nat) : Int) ∧ Of W x (xs.drop q) ∧ ∀ b, x.ownBlock = some b → w1.heap.size ≤ b) (fun _ _ u _ => k + sl - (intOf u).toNat)
      case atStart => exact ⟨rfl, 0, Nat.zero_le _, rfl, by simp [unhide HS0], unhide HO4, unhide HOW⟩
      case round =>
        obtain ⟨rfl, q, hq, rfl, rfl, hOq, hOWq⟩ := hrel
        have HOq := hide hOq
        have HOWq := hide hOWq
        obtain ⟨qo, qc, rfl⟩ := hOq.shape
        have hdl : (xs.drop q).length = xs.length - q := List.length_drop
        by_cases hqk : q < k
        · have hqx : q < xs.length := by omega
          have hdrop := List.drop_eq_getElem_cons hqx
          obtain ⟨x0, hx0⟩ : ∃ x, x = xs[q] := ⟨_, rfl⟩
          rw [← hx0] at hdrop
          have hlr : (xs.drop q).length = (xs.drop (q + 1)).length + 1 := by rw [hdrop]; simp
          have hsm : (xs.drop q).sum = x0 + (xs.drop (q + 1)).sum := by rw [hdrop]; simp
          have hOq2 := hOq
          rw [hdrop] at hOq2
          obtain ⟨g, off, cp, hv, hc1, hc2, hcell, hA, hBB⟩ := hOq2.first
          rw [← hlr] at hv hc1
          simp only [Value.slice.injEq, true_and] at hv
          obtain ⟨rfl, -, rfl⟩ := hv
          have hsum40 : (xs.drop q).sum ≤ 40 := by
            have h1 := List.take_append_drop q xs
            have h2 : xs.sum = (xs.take q).sum + (xs.drop q).sum := by rw [← List.sum_append, h1]
            have h3 := unhide HS40
            omega
          obtain ⟨Sq, hSq⟩ : ∃ S, S = (xs.drop q).sum := ⟨_, rfl⟩
          obtain ⟨Sr, hSr⟩ : ∃ S, S = (xs.drop (q + 1)).sum := ⟨_, rfl⟩
          rw [← hSq] at hsm hsum40 ⊢
          rw [← hSr] at hsm
          have kB : IntKind.i64.wrap ((Sq : Int) - (x0 : Int)) = (Sr : Int) := by
            have := wrapI Sr (by omega)
            rw [show (Sq : Int) - (x0 : Int) = (Sr : Int) by omega]
            exact this
          have kC : IntKind.u64.wrap (((sl + q : Nat) : Int) + 1) = ((sl + q + 1 : Nat) : Int) := by
            have := wrapU (sl + q + 1) (by omega)
            exact_mod_cast this
          have q1 : ((sl + q : Nat) : Int) < (lsn : Int) := by omega
          have q2 : (0 : Int) < ((xs.drop q).length : Int) := by omega
          have HSr := hide hSr
          have HLR := hide hlr
          by_cases hcp : 1 < qc
          · have HA9 := hide (hA hcp)
            rw [hlr] at hc1 q2 ⊢
            generalize (xs.drop (q + 1)).length = ln at *
            clear hOq hOWq hOq2 hA hBB hdrop hlr hsm hSq hSr hsum40 hx0 HLR
            go_wp2_with fail
            go_roundw
            case rel => exact ⟨trivial, q + 1, by omega, by go_num, by rw [← unhide HSr], unhide HA9, unhide HOWq⟩
            case measure => simp [intOf]; omega
          · obtain rfl : qc = 1 := by omega
            have HA9 := hide (hBB hcp)
            rw [hlr] at hc1 q2 ⊢
            generalize (xs.drop (q + 1)).length = ln at *
            obtain rfl : ln = 0 := by omega
            clear hOq hOWq hOq2 hA hBB hdrop hlr hsm hSq hSr hsum40 hx0 HLR
            go_wp2_with fail
            go_roundw
            case rel => exact ⟨trivial, q + 1, by omega, by go_num, by rw [← unhide HSr], unhide HA9, unhide HOWq⟩
            case measure => simp [intOf]; omega
        · have hqk2 : q = k := by omega
          subst hqk2
          have q1 : ¬ ((sl + q : Nat) : Int) < (lsn : Int) := by omega
          obtain ⟨Sq, hSq⟩ : ∃ S, S = (xs.drop q).sum := ⟨_, rfl⟩
          rw [← hSq]
          have HSq := hide hSq
          obtain ⟨ys, hys⟩ : ∃ y, y = xs.drop q := ⟨_, rfl⟩
          rw [← hys] at HR4 HOq HOWq HSq ⊢
          clear hOq hOWq hdl hSq hys
          obtain ⟨⟨mvT, svT, qvT, hJT, -, -⟩, okT, -⟩ := unhide HJ4
          have hrT := room_any _ j s mvT _ _ hJT okT
          have hroT := (unhide HR4).room okT
          rw [hroT.1] at hrT
          have HRT := hide hrT
          have kT : IntKind.i64.wrap (((c - 2 : Nat) : Int) - ((Sq : Nat) : Int)) = ((c - 2 - (ys).sum : Nat) : Int) := by
            have e1 : Sq = (ys).sum := unhide HSq
            have e2 := hroT.2
            have := wrapI (c - 2 - (ys).sum) (by omega)
            rw [e1, show ((c - 2 : Nat) : Int) - (((ys).sum : Nat) : Int) = ((c - 2 - (ys).sum : Nat) : Int) by omega]
            exact this
          clear hJT okT hrT hroT
          go_wp2_with (go_at_call 18; refine (num_any _ _).mono ?_; rintro e w9 ⟨rfl, rfl⟩)
          refine (unhide HRT).mono ?_
          rintro e wT ⟨rfl, fT⟩
          have HJS9 := hide ((unhide HJ4).kept0 fT)
          have HOF9 := hide ((unhide HOq).kept fT (fun _ _ e => e))
          have HF9 := hide ((unhide HF4).trans fT (fun _ _ e => e))
          clear fT HRT
          generalize c - 2 - (ys).sum = rT at *
          go_wp2_with fail
          go_roundw
          case rel => exact ⟨i + 1, by omega, by go_num, _, _, ys, unhide HJS9, unhide HR4, unhide HSL, unhide HOF9, unhide HOWq, by rw [show Sq = (ys).sum from unhide HSq], unhide HF9⟩
          case measure => simp [intOf]; omega
    have HR4 := hide (unhide HR).mono
    clear RT3 HA3 a1 a2 hlt3 HR
    obtain ⟨⟨mvT, svT, qvT, hJT, -, -⟩, okT, -⟩ := unhide HJ3
    have hrT := room_any _ j s mvT _ _ hJT okT
    have hroT := (unhide HR4).room okT
    rw [hroT.1] at hrT
    have HRT := hide hrT
    have kT : IntKind.i64.wrap (((c - 2 : Nat) : Int) - ((S0 : Nat) : Int)) = ((c - 2 - (xs).sum : Nat) : Int) := by
      have e1 : S0 = (xs).sum := unhide HS0
      have e2 := hroT.2
      have := wrapI (c - 2 - (xs).sum) (by omega)
      rw [e1, show ((c - 2 : Nat) : Int) - (((xs).sum : Nat) : Int) = ((c - 2 - (xs).sum : Nat) : Int) by omega]
      exact this
    clear hJT okT hrT hroT
    go_wp2_with (go_at_call 18; refine (num_any _ _).mono ?_; rintro e w9 ⟨rfl, rfl⟩)
    refine (unhide HRT).mono ?_
    rintro e wT ⟨rfl, fT⟩
    have HJS9 := hide ((unhide HJ3).kept0 fT)
    have HOF9 := hide ((unhide HO3).kept fT (fun _ _ e => e))
    have HF9 := hide ((unhide HF3).trans fT (fun _ _ e => e))
    clear fT HRT
    generalize c - 2 - (xs).sum = rT at *
    go_wp2_with fail
    go_roundw
    case rel => exact ⟨i + 1, by omega, by go_num, _, _, xs, unhide HJS9, unhide HR4, unhide HSL, unhide HOF9, unhide HOW, by rw [show S0 = (xs).sum from unhide HS0], unhide HF9⟩
    case measure => simp [intOf]; omega
end Go.Proofs.Ytgodlfoidjeekaa

namespace Go.Proofs.Ytgodlfoidjeekaa
set_option linter.unusedVariables false
set_option linter.unusedSimpArgs false
open Go.RowKit Go.ChangeShapes Go.WideShapes Go.ChangeAt Go.Deep
set_option linter.unusedVariables false

theorem bulk_one {H : Type} (d : DataW H) : 1 ≤ Rows.uptoBulk d := by
  cases d with
  | lit l => cases l <;> simp [Rows.uptoBulk]
  | nil => simp [Rows.uptoBulk]
  | ptr d => simp [Rows.uptoBulk]
  | slice elems spare => simp [Rows.uptoBulk]
  | agg parts => simp [Rows.uptoBulk]
  | iface t d => simp [Rows.uptoBulk]
  | map entries => simp [Rows.uptoBulk]
  | held h => simp [Rows.uptoBulk]

theorem bulk_mem {H : Type} {l : List (DataW H)} {d : DataW H} (h : d ∈ l) : Rows.uptoBulk d ≤ Rows.uptoBulkAll l := by
  induction l with
  | nil => simp at h
  | cons x r ih =>
    simp only [Rows.uptoBulkAll]
    rcases List.mem_cons.1 h with rfl | h
    · omega
    · have := ih h; omega

theorem bulk_length {H : Type} (l : List (DataW H)) : l.length ≤ Rows.uptoBulkAll l := by
  induction l with
  | nil => simp
  | cons x r ih => have := bulk_one x; simp only [Rows.uptoBulkAll, List.length_cons]; omega

theorem byte_nat (x : Int) (h : 0 ≤ x) (h2 : x < 256) : (((UInt8.ofNat x.toNat).toNat : Nat) : Int) = x := by
  rw [UInt8.toNat_ofNat']; omega
theorem bd64 {n : Int} (h : (Lit.int .u64 n).wf = true) : 0 ≤ n ∧ n < 18446744073709551616 := by
  have := bounds_u64 h; omega
theorem bdi {n : Int} (h : (Lit.int .i64 n).wf = true) : -9223372036854775808 ≤ n ∧ n < 9223372036854775808 := by
  have := bounds_i64 h; omega

section
variable {H : Type} {enc : TypeId × Value → H} {W : World} {fuel : Nat} {d : DataW H} {pl : List MemPlace} {spare : Nat → Bool} {held : Bool}

/-- A []byte that came in. -/
theorem open_rd {v : Value} (h : DataW.trod enc Try.prog W 0 spare held fuel 23 [v] = some (d, pl)) : ∃ l, Rd W v l ∧ l.length ≤ Rows.uptoBulk d := by
  rcases open_ints Try.underlying23 Try.underlying5 (by kernel_rfl) h with ⟨hcs, hx⟩ | ⟨a, len, cap, zs, hcs, _, hl, hm, hz, hx, hcell, hwz⟩
  · simp at hcs
    subst hcs
    exact ⟨[], Rd.nil _, by simp⟩
  · simp at hcs
    subst hcs
    simp only [Prod.mk.injEq] at hx
    have hzl : len ≤ zs.length := by rw [hz]; split <;> omega
    have hlen : ((zs.take len).map fun n => UInt8.ofNat n.toNat).length = len := by simp; omega
    refine ⟨(zs.take len).map fun n => UInt8.ofNat n.toNat, .inr ⟨a, cap, by rw [hlen], by rw [hlen]; exact hl, hm, fun j hj => ?_⟩, ?_⟩
    · rw [hlen] at hj
      rw [hcell j (by omega)]
      have hb := bounds_u8 (hwz _ (List.getElem_mem (show j < zs.length by omega)))
      have e : zs.getD j 0 = zs[j]'(by omega) := by simp [List.getD, show j < zs.length by omega]
      rw [e]
      simp only [List.getElem_map, List.getElem_take]
      rw [byte_nat _ hb.1 (by omega)]
    · rw [hlen, hx.1]
      simp only [Rows.uptoBulk]
      have := bulk_length (H := H) (lits IntKind.u8 (zs.take len))
      have e : (lits (H := H) IntKind.u8 (zs.take len)).length = len := by simp [lits]; omega
      omega

set_option maxRecDepth 100000 in
/-- A Put that came in. -/
theorem open_put {cs : List Value} (h : DataW.trod enc Try.prog W 0 spare held fuel 94 cs = some (d, pl)) (hb : Rows.uptoBulk d ≤ 1048576) : ∃ s : Int × Value × List UInt8, cs = [.int .i64 s.1, s.2.1] ∧ Rd W s.2.1 s.2.2 ∧ s.2.2.length ≤ 1048576 := by
  obtain ⟨xs, n, rfl, hx, hlen, hxl, hf⟩ := DataW.trod_struct Try.underlying94 h
  have hc2 : Try.prog.cellsOf 94 = 2 := by kernel_rfl
  rw [hc2] at hlen
  simp only [Prod.mk.injEq] at hx
  have hxl2 : xs.length = 2 := hxl
  match cs, hlen with
  | [c0, c1], _ =>
    match xs, hxl2 with
    | [x0, x1], _ =>
      have b : ∀ x ∈ [x0, x1], Rows.uptoBulk x.1 ≤ 1048576 := fun x hx' => by
        have := bulk_mem (List.mem_map.2 ⟨x, hx', rfl⟩ : x.1 ∈ [x0, x1].map (·.1))
        rw [hx.1] at hb
        simp only [Rows.uptoBulk] at hb
        omega
      have k3 : Try.prog.cellsOf 3 = 1 := by kernel_rfl
      have k23 : Try.prog.cellsOf 23 = 1 := by kernel_rfl
      have f0 : DataW.trod enc Try.prog W 0 spare held n 3 (([c0, c1].drop 0).take (Try.prog.cellsOf 3)) = some x0 := hf 0 _ rfl
      rw [k3] at f0
      have f1 : DataW.trod enc Try.prog W 0 spare held n 23 (([c0, c1].drop 1).take (Try.prog.cellsOf 23)) = some x1 := hf 1 _ rfl
      rw [k23] at f1
      obtain ⟨n0, e0, -, w0⟩ := DataW.trod_int Try.underlying3 f0
      obtain ⟨l1, r1, z1⟩ := open_rd f1
      obtain rfl : c0 = .int .i64 n0 := by simpa using e0
      exact ⟨(n0, c1, l1), rfl, r1, Nat.le_trans z1 (b x1 (by simp))⟩

/-- A []Put that came in. -/
theorem open_puts {v : Value} (h : DataW.trod enc Try.prog W 0 spare held fuel 28 [v] = some (d, pl)) (hb : Rows.uptoBulk d ≤ 1048576) : ∃ ps, RdP W v ps ∧ ps.length ≤ 1048576 ∧ ∀ p ∈ ps, p.2.length ≤ 1048576 := by
  rcases open_slice Try.underlying28 h with ⟨hcs, hx⟩ | ⟨a, len, cap, m, n, D, Pl, hcs, _, hl, hm, hmm, hx, hcell⟩
  · simp at hcs
    subst hcs
    exact ⟨[], .inl ⟨⟨_, _, rfl⟩, rfl⟩, by simp, by simp⟩
  · simp at hcs
    subst hcs
    simp only [Prod.mk.injEq] at hx
    have hlm : len ≤ m := by rw [hmm]; split <;> omega
    have hbulk : Rows.uptoBulkAll ((List.range len).map D) ≤ 1048576 := by
      rw [hx.1] at hb
      simp only [Rows.uptoBulk] at hb
      omega
    have hlen : len ≤ 1048576 := by
      have := bulk_length ((List.range len).map D)
      simp only [List.length_map, List.length_range] at this
      omega
    have hc2 : Try.prog.cellsOf 94 = 2 := by kernel_rfl
    rw [hc2] at hcell
    have hch : ∀ i, i < len → ∃ s : Int × Value × List UInt8, W.cells? 0 (a.add (i * 2)) 2 = some [.int .i64 s.1, s.2.1] ∧ Rd W s.2.1 s.2.2 ∧ s.2.2.length ≤ 1048576 := fun i hi => by
      obtain ⟨cs', h1, h2⟩ := hcell i (by omega)
      obtain ⟨s, rfl, hs⟩ := open_put h2 (Nat.le_trans (bulk_mem (List.mem_map.2 ⟨i, List.mem_range.2 hi, rfl⟩ : D i ∈ (List.range len).map D)) hbulk)
      exact ⟨s, h1, hs⟩
    obtain ⟨L, hL⟩ := choose_lt (α := Int × Value × List UInt8) hch
    have key : ∀ j (hj : j < len), W.cell? (a.add (j * 2)) = some (.int .i64 (L j).1) ∧ W.cell? (a.add (j * 2 + 1)) = some (L j).2.1 := fun j hj => by
      have hc := World.cells?_some (hL j hj).1
      have h0 := hc.2.2 0 (by decide)
      have h1 := hc.2.2 1 (by decide)
      rw [add_add] at h0 h1
      exact ⟨h0, h1⟩
    refine ⟨(List.range len).map fun j => ((L j).1, (L j).2.2), ?_, by simpa using hlen, fun p hp => ?_⟩
    · rcases Nat.eq_zero_or_pos len with e | e
      · subst e
        exact .inl ⟨⟨_, _, rfl⟩, rfl⟩
      · obtain ⟨b, off, spot⟩ := a
        have hspot : spot = none := by simpa [Addr.add] using World.cell?_spot (key 0 e).1
        subst hspot
        refine .inr ⟨b, off, cap, by simp, by simpa using hl, hm, fun j hj => ?_⟩
        have hj' : j < len := by simpa using hj
        have e : ((List.range len).map fun j => ((L j).1, (L j).2.2))[j]'hj = ((L j).1, (L j).2.2) := by simp
        rw [e]
        obtain ⟨k0, k1⟩ := key j hj'
        rw [Addr.add_lit] at k0 k1
        exact ⟨k0, _, k1, (hL j hj').2.1⟩
    · obtain ⟨j, hj, rfl⟩ := List.mem_map.1 hp
      exact (hL j (List.mem_range.1 hj)).2.2
end
end Go.Proofs.Ytgodlfoidjeekaa

namespace Go.Proofs.Ytgodlfoidjeekaa
set_option linter.unusedVariables false
set_option linter.unusedSimpArgs false
open Go.RowKit Go.ChangeShapes Go.WideShapes Go.ChangeAt Go.Deep
set_option linter.unusedVariables false

section
variable {H : Type} {enc : TypeId × Value → H} {W : World} {fuel : Nat} {d : DataW H} {pl : List MemPlace} {spare : Nat → Bool} {held : Bool}
/-- A []int that came in. -/
theorem open_rdi {v : Value} (h : DataW.trod enc Try.prog W 0 spare held fuel 73 [v] = some (d, pl)) : ∃ l : List Int, RdV W v (l.map (Value.int .i64)) ∧ (∀ x ∈ l, -9223372036854775808 ≤ x ∧ x ≤ 9223372036854775807) ∧ l.length ≤ Rows.uptoBulk d := by
  rcases open_ints Try.underlying73 Try.underlying3 (by kernel_rfl) h with ⟨hcs, hx⟩ | ⟨a, len, cap, zs, hcs, _, hl, hm, hz, hx, hcell, hwz⟩
  · simp at hcs
    subst hcs
    exact ⟨[], .inl ⟨rfl, rfl⟩, by simp, by simp⟩
  · simp at hcs
    subst hcs
    simp only [Prod.mk.injEq] at hx
    have hzl : len ≤ zs.length := by rw [hz]; split <;> omega
    have hlen : ((zs.take len).map (Value.int .i64)).length = len := by simp; omega
    refine ⟨zs.take len, .inr ⟨a, cap, by rw [hlen], by rw [hlen]; exact hl, hm, fun j hj => ?_⟩, fun x hx => ?_, ?_⟩
    · rw [hlen] at hj
      rw [hcell j (by omega)]
      have e : zs.getD j 0 = zs[j]'(by omega) := by simp [List.getD, show j < zs.length by omega]
      rw [e]
      simp
    · have := bounds_i64 (hwz _ (List.mem_of_mem_take hx)); omega
    · rw [hx.1]
      simp only [Rows.uptoBulk]
      have := bulk_length (H := H) (lits IntKind.i64 (zs.take len))
      have e : (lits (H := H) IntKind.i64 (zs.take len)).length = (zs.take len).length := by simp [lits]
      omega
/-- An act's cells. -/
structure Cl where
  a : Ac
  t : Value
  k : Value
instance : Inhabited Cl := ⟨⟨⟨0, [], 0, [], 0⟩, .nilIface, .nilIface⟩⟩
def Cl.cells (c : Cl) : List Value := [.int .i64 c.a.k, c.t, .int .u64 (c.a.lsn : Int), c.k, .int .i64 c.a.fail]
set_option maxRecDepth 100000 in
/-- An Act that came in. -/
theorem open_act {cs : List Value} (h : DataW.trod enc Try.prog W 0 spare held fuel 75 cs = some (d, pl)) (hb : Rows.uptoBulk d ≤ 1048576) : ∃ c : Cl, cs = c.cells ∧ c.a.In ∧ RdP W c.t c.a.tx ∧ RdV W c.k (c.a.keep.map (Value.int .i64)) := by
  obtain ⟨xs, n, rfl, hx, hlen, hxl, hf⟩ := DataW.trod_struct Try.underlying75 h
  have hc5 : Try.prog.cellsOf 75 = 5 := by kernel_rfl
  rw [hc5] at hlen
  simp only [Prod.mk.injEq] at hx
  have hxl5 : xs.length = 5 := hxl
  match cs, hlen with
  | [c0, c1, c2, c3, c4], _ =>
    match xs, hxl5 with
    | [x0, x1, x2, x3, x4], _ =>
      have b : ∀ x ∈ [x0, x1, x2, x3, x4], Rows.uptoBulk x.1 ≤ 1048576 := fun x hx' => by
        have := bulk_mem (List.mem_map.2 ⟨x, hx', rfl⟩ : x.1 ∈ [x0, x1, x2, x3, x4].map (·.1))
        rw [hx.1] at hb
        simp only [Rows.uptoBulk] at hb
        omega
      have k3 : Try.prog.cellsOf 3 = 1 := by kernel_rfl
      have k28 : Try.prog.cellsOf 28 = 1 := by kernel_rfl
      have k22 : Try.prog.cellsOf 22 = 1 := by kernel_rfl
      have k73 : Try.prog.cellsOf 73 = 1 := by kernel_rfl
      have f0 : DataW.trod enc Try.prog W 0 spare held n 3 (([c0, c1, c2, c3, c4].drop 0).take (Try.prog.cellsOf 3)) = some x0 := hf 0 _ rfl
      rw [k3] at f0
      have f1 : DataW.trod enc Try.prog W 0 spare held n 28 (([c0, c1, c2, c3, c4].drop 1).take (Try.prog.cellsOf 28)) = some x1 := hf 1 _ rfl
      rw [k28] at f1
      have f2 : DataW.trod enc Try.prog W 0 spare held n 22 (([c0, c1, c2, c3, c4].drop 2).take (Try.prog.cellsOf 22)) = some x2 := hf 2 _ rfl
      rw [k22] at f2
      have f3 : DataW.trod enc Try.prog W 0 spare held n 73 (([c0, c1, c2, c3, c4].drop 3).take (Try.prog.cellsOf 73)) = some x3 := hf 3 _ rfl
      rw [k73] at f3
      have f4 : DataW.trod enc Try.prog W 0 spare held n 3 (([c0, c1, c2, c3, c4].drop 4).take (Try.prog.cellsOf 3)) = some x4 := hf 4 _ rfl
      rw [k3] at f4
      obtain ⟨n0, e0, -, w0⟩ := DataW.trod_int Try.underlying3 f0
      obtain ⟨ps, r1, l1, d1⟩ := open_puts (d := x1.1) (pl := x1.2) f1 (b x1 (by simp))
      obtain ⟨n2, e2, -, w2⟩ := DataW.trod_int Try.underlying22 f2
      obtain ⟨ks, r3, -, l3⟩ := open_rdi (d := x3.1) (pl := x3.2) f3
      obtain ⟨n4, e4, -, w4⟩ := DataW.trod_int Try.underlying3 f4
      have h2 := bd64 w2
      have h4 := bdi w4
      obtain ⟨m2, rfl⟩ : ∃ m : Nat, n2 = (m : Int) := ⟨n2.toNat, by omega⟩
      obtain rfl : c0 = .int .i64 n0 := by simpa using e0
      obtain rfl : c2 = .int .u64 (m2 : Int) := by simpa using e2
      obtain rfl : c4 = .int .i64 n4 := by simpa using e4
      exact ⟨⟨⟨n0, ps, m2, ks, n4⟩, c1, c3⟩, rfl, ⟨by dsimp only; omega, l1, d1, Nat.le_trans l3 (b x3 (by simp)), by dsimp only; omega⟩, r1, r3⟩
/-- A []Act that came in. -/
theorem open_acts {v : Value} (h : DataW.trod enc Try.prog W 0 spare held fuel 59 [v] = some (d, pl)) (hb : Rows.uptoBulk d ≤ 1048576) : ∃ l, RdJ W v l ∧ l.length ≤ 1048576 := by
  rcases open_slice Try.underlying59 h with ⟨hcs, hx⟩ | ⟨a, len, cap, m, n, D, Pl, hcs, _, hl, hm, hmm, hx, hcell⟩
  · simp at hcs
    subst hcs
    exact ⟨[], .inl ⟨⟨_, _, rfl⟩, rfl⟩, by simp⟩
  · simp at hcs
    subst hcs
    simp only [Prod.mk.injEq] at hx
    have hlm : len ≤ m := by rw [hmm]; split <;> omega
    have hbulk : Rows.uptoBulkAll ((List.range len).map D) ≤ 1048576 := by
      rw [hx.1] at hb
      simp only [Rows.uptoBulk] at hb
      omega
    have hlen : len ≤ 1048576 := by
      have := bulk_length ((List.range len).map D)
      simp only [List.length_map, List.length_range] at this
      omega
    have hc5 : Try.prog.cellsOf 75 = 5 := by kernel_rfl
    rw [hc5] at hcell
    have hch : ∀ i, i < len → ∃ c : Cl, W.cells? 0 (a.add (i * 5)) 5 = some c.cells ∧ c.a.In ∧ RdP W c.t c.a.tx ∧ RdV W c.k (c.a.keep.map (Value.int .i64)) := fun i hi => by
      obtain ⟨cs', h1, h2⟩ := hcell i (by omega)
      obtain ⟨s, rfl, hs⟩ := open_act h2 (Nat.le_trans (bulk_mem (List.mem_map.2 ⟨i, List.mem_range.2 hi, rfl⟩ : D i ∈ (List.range len).map D)) hbulk)
      exact ⟨s, h1, hs⟩
    obtain ⟨L, hL⟩ := choose_lt (α := Cl) hch
    have key : ∀ j (hj : j < len) (q : Nat) (hq : q < 5), W.cell? (a.add (j * 5 + q)) = (L j).cells[q]? := fun j hj q hq => by
      have hc := World.cells?_some (hL j hj).1
      have h0 := hc.2.2 q hq
      rw [add_add] at h0
      exact h0
    refine ⟨(List.range len).map fun j => (L j).a, ?_, by simpa using hlen⟩
    rcases Nat.eq_zero_or_pos len with e | e
    · subst e
      exact .inl ⟨⟨_, _, rfl⟩, rfl⟩
    · obtain ⟨b, off, spot⟩ := a
      have hspot : spot = none := by
        have := key 0 e 0 (by decide)
        simpa [Addr.add] using World.cell?_spot this
      subst hspot
      refine .inr ⟨b, off, cap, by simp, by simpa using hl, hm, fun j hj => ?_⟩
      have hj' : j < len := by simpa using hj
      have e : ((List.range len).map fun j => (L j).a)[j]'hj = (L j).a := by simp
      rw [e]
      have k0 := key j hj' 0 (by decide)
      have k1 := key j hj' 1 (by decide)
      have k2 := key j hj' 2 (by decide)
      have k3 := key j hj' 3 (by decide)
      have k4 := key j hj' 4 (by decide)
      rw [Addr.add_lit] at k0 k1 k2 k3 k4
      obtain ⟨-, h1, h2, h3⟩ := hL j hj'
      exact ⟨h1, k0, ⟨_, k1, h2⟩, k2, ⟨_, k3, h3⟩, k4⟩
end
end Go.Proofs.Ytgodlfoidjeekaa
