/- The walk of RatioMakes. -/
import Derived.Test.YtfhepaiefdmlcaaDoorRefD
import Derived.Test.YtfhepaiefdmlcaaDoorSpk2
import Derived.WalkKit
import Derived.WalkSpells
import Derived.WalkLawsBesides
import Derived.Handy
import Derived.Lib.Hide
import Derived.Deep.QuietTactic
import Derived.BigQuiet
import Derived.LoopTactic
import Derived.RegionTactic
import Derived.BigRegion
import Derived.Deep.RegionHeld3
import Derived.Deep.RegionWith
import Derived.Outline
import Derived.Deep.DeepCutAuto
namespace Go.Proofs.YtfhepaiefdmlcaaDoor
open Go.RowKit Go.Proofs.Big Go.Proofs.Reg
set_option linter.unusedVariables false
set_option linter.unusedSimpArgs false
set_option maxRecDepth 100000
/-- two ints in memory -/
structure TwoI (w : World) (q : Nat) (a b : Int) : Prop where
  c0 : w.cell? ⟨q, 0, none⟩ = some (.int .i64 a)
  c1 : w.cell? ⟨q, 1, none⟩ = some (.int .i64 b)
theorem TwoI.later {w w' : World} {q : Nat} {a b : Int} (h : TwoI w q a b) (hb : Below w.heap.size w w') : TwoI w' q a b := ⟨cell_later hb h.c0, cell_later hb h.c1⟩
theorem TwoI.new (w : World) (a b : Int) (t : TypeId) : TwoI (w.alloc (.cells #[.int .i64 a, .int .i64 b] t)) w.heap.size a b := ⟨by simp [go_sem], by simp [go_sem]⟩
theorem TwoI.lt {w : World} {q : Nat} {a b : Int} (h : TwoI w q a b) : q < w.heap.size := World.block_lt_of_cell? w _ h.c0
end Go.Proofs.YtfhepaiefdmlcaaDoor
