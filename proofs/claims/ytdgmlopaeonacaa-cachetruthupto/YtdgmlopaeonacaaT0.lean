/-
  CacheTruth: its switch, and what an act leaves.
-/
import Derived.Test.YtdgmlopaeonacaaF5
namespace Go.Proofs.Ytdgmlopaeonacaa
open Go.RowKit
set_option linter.unusedVariables false

/-- The block of that number. -/
def blkOf (n : Nat) : Code → Option Code
  | .loop c => blkOf n c
  | .seq a b => match blkOf n a with
    | some c => some c
    | none => blkOf n b
  | .block k c => if k = n then some (.block k c) else blkOf n c
  | .scope c => blkOf n c
  | .cond _ a b => match blkOf n a with
    | some c => some c
    | none => blkOf n b
  | _ => none
noncomputable def blk4 : Code := ((Try.f4.body.bind (blkOf 4)).getD .skip)
/-- What an act leaves. -/
def TrR (w W : World) (p h r u : Nat) (dv : Value) (gw n pl i : Nat) (m : Hm) (x : Value) : Prop := ∃ (c5 : Ca) (m5 : Hm) (l5 : List Pl) (want5 : List (List UInt8)) (last5 : List Nat), x = .int .u64 (c5.safe : Int) ∧ LS w W p h r u dv gw (gw + 1) n pl (i + 1) c5 m5 l5 want5 last5 ∧ LgC c5.safe want5 last5 m m5
end Go.Proofs.Ytdgmlopaeonacaa
