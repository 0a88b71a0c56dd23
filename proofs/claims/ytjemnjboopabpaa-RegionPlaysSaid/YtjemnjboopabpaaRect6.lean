/- The reference's rectangles, and the law's own small functions. -/
import Derived.Test.YtjemnjboopabpaaRectC
import Derived.WalkKit
import Derived.WalkSpells
import Derived.WalkLawsBesides
import Derived.Handy
import Derived.Lib.Hide
import Derived.Deep.QuietTactic
import Derived.BigQuiet
import Derived.LoopTactic
import Derived.Deep.RegionHeld3
import Derived.Deep.RegionWith
import Derived.Outline
import Derived.Deep.DeepCutAuto
namespace Go.Proofs.Ytjemnjboopabpaa
open Go.RowKit Go.Proofs.Reg
set_option linter.unusedVariables false
set_option linter.unusedSimpArgs false
set_option maxRecDepth 100000
/-- the four cells in the course of it -/
structure R6 (w wr : World) (k : Nat) (a b c d x y z t : Int) : Prop where
  T : Tab wr [(w.heap.size, [.int .i64 (if 0 < k then x else a), .int .i64 (if 1 < k then y else b), .int .i64 (if 2 < k then z else c), .int .i64 (if 3 < k then t else d)]), (w.heap.size + 1, [.int .i64 0, .int .i64 0, .int .i64 0, .int .i64 0])]
  B : Below w.heap.size w wr
end Go.Proofs.Ytjemnjboopabpaa
