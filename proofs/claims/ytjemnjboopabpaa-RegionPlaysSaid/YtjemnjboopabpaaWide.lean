/- Package wide: what each function returns, and that of memory only new blocks are laid. -/
import Derived.Test.YtjemnjboopabpaaRows
import Derived.Test.YtjemnjboopabpaaShelf
import Derived.Test.YtjemnjboopabpaaNum
import Derived.Test.YtjemnjboopabpaaDiv64
import Derived.WalkKit
import Derived.WalkSpells
import Derived.WalkLawsBesides
import Derived.Handy
import Derived.Lib.Hide
import Derived.Deep.QuietTactic
import Derived.BigQuiet
import Derived.Deep.RegionHeld3
import Derived.Shelf.Spec.BitsCarry
namespace Go.Proofs.Ytjemnjboopabpaa
open Go.RowKit
set_option linter.unusedVariables false

theorem bcell {W w1 : World} (hb : Below W.heap.size W w1) : (∀ b o, b < W.heap.size → w1.cell? ⟨b, o, none⟩ = W.cell? ⟨b, o, none⟩) ∧ (∀ b o, b < W.heap.size → w1.frozen? ⟨b, o, none⟩ = W.frozen? ⟨b, o, none⟩) :=
  ⟨fun b o h => hb.cell (p := ⟨b, o, none⟩) h, fun b o h => hb.frozen (p := ⟨b, o, none⟩) h⟩

/-! ### the carries -/
def bor (x y : Int) : Int := if x < y then 1 else 0
/-! ### small ones: the world written out -/
/-! ### those of several blocks -/
end Go.Proofs.Ytjemnjboopabpaa
