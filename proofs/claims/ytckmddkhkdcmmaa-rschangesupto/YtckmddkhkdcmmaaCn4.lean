/-
  The walk of the law RsChanges.
-/
import Derived.Test.YtckmddkhkdcmmaaCn3
import Derived.Test.YtckmddkhkdcmmaaLent
import Derived.Test.YtckmddkhkdcmmaaRs12
namespace Go.Proofs.Ytckmddkhkdcmmaa
open Go.RowKit
set_option linter.unusedVariables false
set_option linter.unusedSimpArgs false

attribute [local go_sem ↓] Go.wp_at_zero Go.wp_at_succ

section
variable (w : World) (pv qv wv : Value) (p q : List UInt8) (l : List Int) (at' : Int)

set_option maxHeartbeats 8000000 in
set_option maxRecDepth 100000 in
theorem chgWalk_no (k m : Int) (h : okB k m = false) (hp : Rd w pv p) (hq : Rd w qv q) (hl : RdV w wv (l.map (Value.int .i64))) (hpb : p.length ≤ 1048576) (hqb : q.length ≤ 1048576) (hlb : l.length ≤ 1048576) :
    Calls Try.prog 12 #[.int .i64 k, .int .i64 m, pv, qv, .int .i64 at', wv] w fun e w' => e = .returned (.bool true) ∧ Fr (fun _ => False) w w' := by
  have HB := hide (both_no w k m h)
  obtain ⟨po, pc, rfl⟩ := hp.shape
  obtain ⟨qo, qc, rfl⟩ := hq.shape
  obtain ⟨lo, lc, rfl⟩ := hl.shape
  rw [List.length_map]
  generalize p.length = np at *
  generalize q.length = nq at *
  generalize l.length = nl at *
  clear h hp hq hl
  by_cases c1 : (9000 : Int) < (np : Int)
  rotate_left
  by_cases c2 : (nq : Int) < (np : Int)
  rotate_left
  by_cases c3 : (9000 : Int) < (nq : Int)
  rotate_left
  by_cases c4 : (30 : Int) < (nl : Int)
  rotate_left
  all_goals
    go_enter Try.func12, Try.ntmps12
    go_wp2_with fail
    refine (unhide HB).mono ?_
    rintro e w1 ⟨rfl, rfl⟩
    go_wp2_with (go_at_call 38; refine (live3_any _).mono ?_; rintro e w3 ⟨rfl, f3⟩)
    go_ret
    exact ⟨rfl, f3⟩

set_option maxHeartbeats 8000000 in
set_option maxRecDepth 100000 in
theorem chgWalk_huge (k m : Nat) (hk : 1 ≤ k ∧ k ≤ 16) (hm : m ≤ 8) (hp : Rd w pv p) (hq : Rd w qv q) (hl : RdV w wv (l.map (Value.int .i64))) (hpb : p.length ≤ 1048576) (hqb : q.length ≤ 1048576) (hlb : l.length ≤ 1048576) (hbad : 9000 < p.length ∨ q.length < p.length ∨ 9000 < q.length ∨ 30 < l.length ∨ at' < 0) :
    Calls Try.prog 12 #[.int .i64 (k : Int), .int .i64 (m : Int), pv, qv, .int .i64 at', wv] w fun e w' => e = .returned (.bool true) ∧ Fr (fun _ => False) w w' := by
  have HB := hide (both_ok w k m hk hm)
  obtain ⟨po, pc, rfl⟩ := hp.shape
  obtain ⟨qo, qc, rfl⟩ := hq.shape
  obtain ⟨lo, lc, rfl⟩ := hl.shape
  rw [List.length_map]
  generalize p.length = np at *
  generalize q.length = nq at *
  generalize l.length = nl at *
  clear hp hq hl
  by_cases c1 : (9000 : Int) < (np : Int)
  rotate_left
  by_cases c2 : (nq : Int) < (np : Int)
  rotate_left
  by_cases c3 : (9000 : Int) < (nq : Int)
  rotate_left
  by_cases c4 : (30 : Int) < (nl : Int)
  rotate_left
  have c5 : at' < 0 := by omega
  all_goals
    clear hbad
    go_enter Try.func12, Try.ntmps12
    go_wp2_with fail
    refine (unhide HB).mono ?_
    rintro e w1 ⟨⟨p9, q9, rfl, -, -, -, -⟩, f1⟩
    have HF1 := hide f1
    clear f1
    go_wp2_with (go_at_call 38; refine (live3_any _).mono ?_; rintro e w3 ⟨rfl, f3⟩)
    go_ret
    exact ⟨rfl, (unhide HF1).trans f3 (fun _ _ h => h)⟩
end
end Go.Proofs.Ytckmddkhkdcmmaa
