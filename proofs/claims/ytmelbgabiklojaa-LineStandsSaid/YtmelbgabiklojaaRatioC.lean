/- Package ratio: Down, Half; RatioScales: its walk. -/
import Derived.Test.YtmelbgabiklojaaRatioB
import Derived.WalkKit
import Derived.WalkSpells
import Derived.WalkLawsBesides
import Derived.Handy
import Derived.Lib.Hide
import Derived.Deep.QuietTactic
import Derived.BigQuiet
import Derived.LoopTactic
import Derived.Deep.RegionHeld3
import Derived.Deep.RegionWith
import Derived.Outline
import Derived.Deep.DeepCutAuto
namespace Go.Proofs.Ytmelbgabiklojaa
open Go.RowKit
set_option linter.unusedVariables false
set_option maxRecDepth 100000
set_option linter.unusedSimpArgs false



theorem lt2 (k : Nat) : k < k + 1 + 1 := by omega
theorem lt3 (k : Nat) : k < k + 1 + 1 + 1 := by omega
end Go.Proofs.Ytmelbgabiklojaa
