/- speaks of layer 4. -/
import Derived.Test.YtbolifjkhoiphaaBut
import Derived.WalkKit
import Derived.WalkSpells
import Derived.WalkLawsBesides
import Derived.Handy
import Derived.Lib.Hide
import Derived.Deep.QuietTactic
import Derived.BigQuiet
import Derived.LoopTactic
import Derived.Defers
import Derived.Recover
import Derived.Deep.RegionHeld3
import Derived.Deep.RegionWith
import Derived.Outline
import Derived.Deep.DeepCutAuto
namespace Go.Proofs.Ytbolifjkhoiphaa
open Go.RowKit
set_option linter.unusedVariables false
set_option linter.unusedSimpArgs false
set_option maxRecDepth 100000
theorem ri_lit (w : World) (b cap : Nat) (xs : List Int) (hm : xs.length ≤ 1000) (h : ∀ k, k < xs.length → w.cell? ⟨b, 0 + k, none⟩ = some (.int .i64 (xs.getD k 0))) : Ri w (some ⟨b, 0, none⟩) xs.length cap xs :=
  ⟨rfl, by omega, fun _ => ⟨_, rfl, fun k hk => by
    cases k with
    | zero => exact h 0 hk
    | succ j => exact h (j + 1) hk⟩⟩
end Go.Proofs.Ytbolifjkhoiphaa
