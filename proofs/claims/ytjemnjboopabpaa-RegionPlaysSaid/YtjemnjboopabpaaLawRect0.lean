/- What the laws of rect share, and the walk of RectRights. -/
import Derived.Test.YtjemnjboopabpaaRectD
import Derived.Test.YtjemnjboopabpaaRect6
import Derived.WalkKit
import Derived.ChangeKeysEq
import Derived.WalkSpells
import Derived.WalkLawsBesides
import Derived.Handy
import Derived.Lib.Hide
import Derived.Deep.QuietTactic
import Derived.BigQuiet
import Derived.LoopTactic
import Derived.Deep.RegionHeld3
import Derived.Deep.RegionWith
import Derived.Outline
import Derived.Deep.DeepCutAuto
namespace Go.Proofs.Ytjemnjboopabpaa
open Go.RowKit Go.Proofs.Reg
set_option linter.unusedVariables false
set_option linter.unusedSimpArgs false
set_option maxRecDepth 100000
theorem bel_al {w wx : World} (h : Below w.heap.size w wx) (o : Obj) : Below w.heap.size w (wx.alloc o) := h.alloc h.size o
theorem eq4_self (a b c d : Int) : eq4 a b c d a b c d = true := by simp [eq4]
theorem nrm_lit : Nrm 0 0 4 4 0 0 4 4 ∧ Nrm 2 1 9 3 2 1 9 3 ∧ Nrm (max 0 2) (max 0 1) (min 4 9) (min 4 3) 2 1 4 3 ∧ Nrm (0 + nr 1) (0 + nr 0) (4 + nr 1) (4 + nr 0) 1 0 5 4 := by
  unfold Nrm lim nr; omega
end Go.Proofs.Ytjemnjboopabpaa
