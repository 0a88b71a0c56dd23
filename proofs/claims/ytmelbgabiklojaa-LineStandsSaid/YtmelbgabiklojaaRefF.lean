/- The reference's Add. -/
import Derived.Test.YtmelbgabiklojaaSums
import Derived.WalkKit
import Derived.WalkSpells
import Derived.WalkLawsBesides
import Derived.Handy
import Derived.Lib.Hide
import Derived.Deep.QuietTactic
import Derived.BigQuiet
import Derived.LoopTactic
import Derived.RegionTactic
import Derived.BigRegion
import Derived.Deep.RegionHeld3
import Derived.Deep.RegionWith
import Derived.Outline
import Derived.Deep.DeepCutAuto
namespace Go.Proofs.Ytmelbgabiklojaa
open Go.RowKit Go.Proofs.Big Go.Proofs.Reg
set_option linter.unusedVariables false
set_option linter.unusedSimpArgs false
set_option maxRecDepth 100000
theorem Tl.zero' {n v er : Int} (h : Tl n v er) : er ≠ 0 → v = 0 := fun z => by
  rcases h with ⟨_, _, h⟩ | ⟨_, h, _⟩
  · exact absurd h z
  · exact h
theorem Ri.later {w w' : World} {a : Option Addr} {len cap : Nat} {xs : List Int} (h : Ri w a len cap xs) (hb : Below w.heap.size w w') : Ri w' a len cap xs :=
  ⟨h.hlen, h.hmax, fun k => by
    obtain ⟨p, e, c⟩ := h.addr k
    exact ⟨p, e, fun j hj => cell_later hb (c j hj)⟩⟩
end Go.Proofs.Ytmelbgabiklojaa
