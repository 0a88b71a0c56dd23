/- speaks of layer 2; lowest terms may be. -/
import Derived.Test.YtfhepaiefdmlcaaDoorRatioC
import Derived.WalkKit
import Derived.WalkSpells
import Derived.WalkLawsBesides
import Derived.Handy
import Derived.Lib.Hide
import Derived.Deep.QuietTactic
import Derived.BigQuiet
import Derived.LoopTactic
import Derived.Deep.RegionHeld3
import Derived.Deep.RegionWith
import Derived.Outline
import Derived.Deep.DeepCutAuto
namespace Go.Proofs.YtfhepaiefdmlcaaDoor
open Go.RowKit
set_option linter.unusedVariables false
set_option maxRecDepth 100000
set_option linter.unusedSimpArgs false



theorem Lowest.good {n d g N D : Int} (L : Lowest n d g N D) : goodB N D = true := by
  have g0 := L.gpos
  have D0 := L.Dpos
  have e1 := L.eN
  have e2 := L.eD
  have hg := L.hg
  have k : Int.gcd (N * g) (D * g) = Int.gcd n d := by
    rw [e1, e2]
    split <;> simp
  rw [Int.gcd_mul_right] at k
  have k2 : Int.gcd N D * g.natAbs = 1 * g.natAbs := by omega
  have k3 : Int.gcd N D = 1 := Nat.eq_of_mul_eq_mul_right (by omega) k2
  unfold goodB
  rw [decide_eq_true D0, k3]
  rfl
end Go.Proofs.YtfhepaiefdmlcaaDoor
