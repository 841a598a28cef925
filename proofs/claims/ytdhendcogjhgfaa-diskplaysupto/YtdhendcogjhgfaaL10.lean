/-
  The laws' act: a copy goes on in the disk's place.
-/
import Derived.Test.YtdhendcogjhgfaaTurnsWalk
namespace Go.Proofs.Ytdhendcogjhgfaa
open Go.RowKit
set_option linter.unusedVariables false

attribute [local go_sem ↓] Go.wp_at_zero Go.wp_at_succ

section
variable (w0 w : World) (p gs : Nat) (q : Value) (p2 sg hg : Nat) (q2 : Value) (d : Dk) (a b : Int) (m : Nat) (dv kv : Value) (D : List UInt8) (K : List Int)

set_option maxHeartbeats 2000000 in
set_option maxRecDepth 100000 in
theorem act_copy (i : AcI w0 w p gs q p2 sg hg q2 d m dv kv D K) : Calls Try.prog 15 #[.pointer (some ⟨p, 0, none⟩), .pointer (some ⟨p2, 0, none⟩), .agg #[.int .i64 8, .int .i64 a, .int .i64 b, .int .u32 (m : Int), dv, kv]] w fun r w' => ∃ pc gc qc dc, r = .returned (.tuple #[.pointer (some ⟨pc, 0, none⟩), .bool true]) ∧ Pq w0 w' pc gc qc p2 sg hg q2 dc dc ∧ core dc = core d := by
  have f1 : Fr (fun _ => False) w (w.alloc (Obj.cells #[.int .i64 8, .int .i64 a, .int .i64 b, .int .u32 (m : Int), dv, kv] 39)) := (Fr.refl _ _).alloc _
  have H1 := hide (i.h.fr f1)
  have hn := i.hn
  have hroom := i.h.k.ok.room
  have hsz := i.h.k.ok.size
  clear i f1
  go_enter Try.func15, Try.ntmps15
  go_wp2_with fail
  refine (copy_any _ _ _ _ _ (unhide H1).k).mono ?_
  rintro e w2 ⟨⟨pc, gc, qc, dc, rfl, hc, kc, x1, x2, x3⟩, f2⟩
  have W2 := hide ((unhide H1).copy kc x1 x2 x3)
  have H2 := hide ((unhide H1).fr f2)
  have F0 := (unhide H1).f.size
  have HX := hide (And.intro (Nat.le_trans F0 x1) (And.intro (Nat.le_trans F0 x2) (fun b hb => Nat.le_trans F0 (x3 b hb))))
  have HC := hide hc
  clear hc kc x1 x2 x3 f2 H1 F0
  go_wp2_with fail
  have hsa := same_any _ _ _ _ _ _ _ _ _ (unhide W2).k (unhide H2).k
  have hcf := core_facts (unhide HC)
  rw [smB_iff.mpr ⟨hcf.1, hcf.2.2.2.1, hcf.2.1, hcf.2.2.1⟩] at hsa
  refine hsa.mono ?_
  clear hsa hcf
  rintro e w' ⟨rfl, n3, rfl⟩
  have W3 := hide ((unhide W2).fr (Fr.ofDrewN _ n3))
  have H3 := hide ((unhide H2).fr (Fr.ofDrewN _ n3))
  clear W2 H2
  go_wp2_with fail
  refine (size_any _ _ _ _ _ (unhide H3).k).mono ?_
  rintro e w' ⟨rfl, rfl⟩
  go_wp2_with fail
  refine (full_any _ d.size 63 (by omega)).mono ?_
  rintro e w4 ⟨rfl, hB4, f4⟩
  have W4 := hide ((unhide W3).fr f4)
  have H4 := hide ((unhide H3).fr f4)
  have hr4 := hB4.rd (by simp [maxLen]; omega)
  rw [List.length_replicate] at hr4
  have HR4 := hide hr4
  clear hB4 f4 hr4 W3 H3
  go_wp2_with fail
  refine (wpa_any 0 _ (List.replicate d.size 63) (unhide H4) (unhide HR4)).mono ?_
  rintro e w5 ⟨rfl, q5, h5, m5⟩
  have W5 := hide ((unhide W4).mv m5)
  have hr5 := h5.k.ok.room
  have hn5 : (wrD d 0 (List.replicate d.size 63)).n = d.n := by unfold wrD; split <;> rfl
  have H5 := hide h5
  clear h5 m5 W4 H4 HR4
  go_wp2_with fail
  refine (flp_any (unhide H5) (by omega)).mono ?_
  rintro e w6 ⟨rfl, q6, h6, m6⟩
  have W6 := hide ((unhide W5).mv m6)
  have H6 := hide h6
  clear h6 m6 W5 H5 hr5 hn5
  go_wp2_with fail
  refine (lop_any 0 (unhide H6)).mono ?_
  rintro e w7 ⟨rfl, q7, h7, m7⟩
  have W7 := hide ((unhide W6).mv m7)
  have H7 := hide h7
  clear h7 m7 W6 H6
  go_wp2_with fail
  refine (fap_any (unhide H7)).mono ?_
  rintro e w8 ⟨rfl, q8, h8, m8⟩
  have W8 := hide ((unhide W7).mv m8)
  have H8 := hide h8
  clear h8 m8 W7 H7
  go_wp2_with fail
  go_ret2
  exact ⟨pc, gc, qc, dc, rfl, ⟨(unhide W8).k, (unhide H8).r.core (unhide HC) (unhide W8).k.ok, (unhide H8).f, fun b hb => by
    obtain ⟨y1, y2, y3⟩ := unhide HX
    rcases hb with rfl | rfl | hb
    · exact y1
    · exact y2
    · exact y3 b hb, (unhide H8).hr⟩, unhide HC⟩
end
end Go.Proofs.Ytdhendcogjhgfaa
