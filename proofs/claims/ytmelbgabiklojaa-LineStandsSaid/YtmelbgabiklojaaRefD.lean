/- The reference's fractions: Good, Half. -/
import Derived.Test.YtmelbgabiklojaaRefC
import Derived.WalkKit
import Derived.WalkSpells
import Derived.WalkLawsBesides
import Derived.Handy
import Derived.Lib.Hide
import Derived.Deep.QuietTactic
import Derived.BigQuiet
import Derived.LoopTactic
import Derived.RegionTactic
import Derived.BigRegion
import Derived.Deep.RegionHeld3
import Derived.Deep.RegionWith
import Derived.Outline
import Derived.Deep.DeepCutAuto
namespace Go.Proofs.Ytmelbgabiklojaa
open Go.RowKit Go.Proofs.Big Go.Proofs.Reg
set_option linter.unusedVariables false
set_option linter.unusedSimpArgs false
set_option maxRecDepth 100000
theorem Lowest.good_iff {n d g N D : Int} (L : Lowest n d g N D) (d1 : 1 ≤ d) : (goodB n d = true ∧ N = n ∧ D = d) ∨ (goodB n d = false ∧ D ≠ d) := by
  have eN := L.eN
  have eD := L.eD
  rw [if_neg (by omega)] at eN eD
  have g1 := L.gpos
  have D1 := L.Dpos
  by_cases h : g = 1
  · left
    subst h
    refine ⟨?_, by omega, by omega⟩
    unfold goodB
    rw [decide_eq_true d1, L.hg]
    rfl
  · right
    refine ⟨?_, fun e => ?_⟩
    · unfold goodB
      rw [decide_eq_true d1, L.hg]
      simpa using h
    · rw [e] at eD
      have : d * 2 ≤ d * g := Int.mul_le_mul_of_nonneg_left (by omega) (by omega)
      omega
theorem Lowest.fits {n d g N D : Int} (L : Lowest n d g N D) (d1 : 1 ≤ d) : (-9223372036854775808 ≤ N ∧ N < 9223372036854775808) ∧ (-9223372036854775808 ≤ D ∧ D < 9223372036854775808) := by
  have eN := L.eN
  have eD := L.eD
  rw [if_neg (by omega)] at eN eD
  have g1 := L.gpos
  have D1 := L.Dpos
  have n0 := L.n0
  have n1 := L.n1
  have dd1 := L.d1
  have h1 : D * 1 ≤ D * g := Int.mul_le_mul_of_nonneg_left (by omega) (by omega)
  have h2 : 0 ≤ N → N * 1 ≤ N * g := fun h => Int.mul_le_mul_of_nonneg_left (by omega) h
  have h3 : N ≤ 0 → N * g ≤ N * 1 := fun h => by
    have := Int.mul_le_mul_of_nonneg_left (c := -N) (show (1 : Int) ≤ g by omega) (by omega)
    rw [Int.neg_mul, Int.neg_mul] at this
    omega
  omega
end Go.Proofs.Ytmelbgabiklojaa
