/-
  What the laws' live reckons with, plainly.
-/
import Derived.Test.YtbenailemoefhaaD4
import Derived.Test.YtbenailemoefhaaC3
import Derived.Test.YtbenailemoefhaaE3
import Derived.Test.YtbenailemoefhaaF3
namespace Go.Proofs.Ytbenailemoefhaa
open Go.RowKit
set_option linter.unusedVariables false
set_option linter.unusedSimpArgs false

def lvD : In := ⟨7, 1, 2, 493, 2, 0, 0, 0, 0, 5, 5, 5, 0, ⟨#[]⟩⟩
def lvF : In := ⟨8, 1, 1, 416, 1, 1, 2, 0, 0, 5, 5, 5, 0, ⟨#[]⟩⟩
def lvH : Ha := ⟨0, 8, 1⟩
theorem lv_d : Res (newX 7 1 2 16877 0 0 5) (newE 7 1 2) = .tuple #[lvD.v, .int .i64 0] := by kernel_rfl
theorem lv_f : Res (newX 8 1 1 416 1 2 5) (newE 8 1 1) = .tuple #[lvF.v, .int .i64 0] := by kernel_rfl
theorem lv_ck : ck lvF = 0 := by kernel_rfl
theorem lv_pR : (pR lvF).length = 84 := by kernel_rfl
theorem lv_gE : gE (pR lvF) = 0 := by kernel_rfl
theorem lv_gX : gX (pR lvF) = lvF := by kernel_rfl
theorem lv_hE : hE lvH = 0 := by kernel_rfl
theorem lv_hR : (hR lvH).length = 20 := by kernel_rfl
theorem lv_ghE : ghE (hR lvH) = 0 := by kernel_rfl
theorem lv_ghX : ghX (hR lvH) = lvH := by kernel_rfl
theorem lv_a1 : acR lvF 1 [] 63 = 13 := by kernel_rfl
theorem lv_a2 : acR lvF 3 [2] 63 = 1 := by kernel_rfl
theorem lvF_ok : lvF.Ok := ⟨by decide, by decide, by decide, by decide, by decide, by decide, by decide, by decide, by decide, by decide, by decide, by decide, by decide⟩
theorem lvH_ok : lvH.Ok := ⟨by decide, by decide, by decide⟩
end Go.Proofs.Ytbenailemoefhaa
