/- Package rect: Inset. -/
import Derived.Test.YtjemnjboopabpaaRectC
import Derived.WalkKit
import Derived.WalkSpells
import Derived.WalkLawsBesides
import Derived.Handy
import Derived.Lib.Hide
import Derived.Deep.QuietTactic
import Derived.BigQuiet
import Derived.LoopTactic
import Derived.Deep.RegionHeld3
import Derived.Deep.RegionWith
import Derived.Outline
import Derived.Deep.DeepCutAuto
namespace Go.Proofs.Ytjemnjboopabpaa
open Go.RowKit Go.Proofs.Reg
set_option linter.unusedVariables false
set_option linter.unusedSimpArgs false
set_option maxRecDepth 100000
/-- inset by so much -/
def InsR (A B C D x y z t P Q R S : Int) : Prop := (emB A B C D = true ∧ P = A ∧ Q = B ∧ R = C ∧ S = D) ∨ (emB A B C D = false ∧ Nrm (A + nr t) (B + nr x) (C - nr y) (D - nr z) P Q R S)
theorem ins_ex (A B C D x y z t : Int) : ∃ P Q R S, InsR A B C D x y z t P Q R S := by
  cases h : emB A B C D
  · obtain ⟨P, Q, R, S, k⟩ := nrm_ex (A + nr t) (B + nr x) (C - nr y) (D - nr z)
    exact ⟨P, Q, R, S, .inr ⟨h, k⟩⟩
  · exact ⟨A, B, C, D, .inl ⟨h, rfl, rfl, rfl, rfl⟩⟩
end Go.Proofs.Ytjemnjboopabpaa
