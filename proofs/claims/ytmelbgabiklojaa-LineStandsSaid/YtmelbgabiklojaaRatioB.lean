/- Package ratio: Of, Down, Half. -/
import Derived.Test.YtmelbgabiklojaaRatio
import Derived.WalkKit
import Derived.WalkSpells
import Derived.WalkLawsBesides
import Derived.Handy
import Derived.Lib.Hide
import Derived.Deep.QuietTactic
import Derived.BigQuiet
import Derived.LoopTactic
import Derived.Deep.RegionHeld3
import Derived.Deep.RegionWith
import Derived.Outline
import Derived.Deep.DeepCutAuto
namespace Go.Proofs.Ytmelbgabiklojaa
open Go.RowKit
set_option linter.unusedVariables false
set_option maxRecDepth 100000
set_option linter.unusedSimpArgs false


/-- what the making of a ratio hands on -/
structure Lowest (n d g N D : Int) : Prop where
  n0 : -9223372036854775808 ≤ n
  n1 : n ≤ 9223372036854775807
  d0 : -9223372036854775808 ≤ d
  d1 : d ≤ 9223372036854775807
  dz : d ≠ 0
  hg : ((Int.gcd n d : Nat) : Int) = g
  eN : N * g = if d < 0 then -n else n
  eD : D * g = if d < 0 then -d else d
theorem lowest_ex (n d : Int) (n0 : -9223372036854775808 ≤ n) (n1 : n ≤ 9223372036854775807) (d0 : -9223372036854775808 ≤ d) (d1 : d ≤ 9223372036854775807) (dz : d ≠ 0) : ∃ g N D, Lowest n d g N D := by
  have a := Int.gcd_dvd_left (a := n) (b := d)
  have b := Int.gcd_dvd_right (a := n) (b := d)
  obtain ⟨x, hx⟩ := a
  obtain ⟨y, hy⟩ := b
  by_cases h : d < 0
  · exact ⟨_, -x, -y, n0, n1, d0, d1, dz, rfl, by rw [if_pos h, Int.neg_mul, Int.mul_comm]; omega, by rw [if_pos h, Int.neg_mul, Int.mul_comm]; omega⟩
  · exact ⟨_, x, y, n0, n1, d0, d1, dz, rfl, by rw [if_neg h, Int.mul_comm]; omega, by rw [if_neg h, Int.mul_comm]; omega⟩
theorem Lowest.gpos {n d g N D : Int} (L : Lowest n d g N D) : 1 ≤ g := by
  have : 0 < Int.gcd n d := Int.gcd_pos_of_ne_zero_right n L.dz
  have := L.hg
  omega
theorem Lowest.Dpos {n d g N D : Int} (L : Lowest n d g N D) : 1 ≤ D := by
  have g0 := L.gpos
  have e := L.eD
  have z := L.dz
  by_cases h : 1 ≤ D
  · exact h
  · have : D * g ≤ 0 * g := Int.mul_le_mul_of_nonneg_right (by omega) (by omega)
    exfalso
    rw [Int.zero_mul] at this
    split at e <;> omega
theorem div_of_mul {a g x : Int} (h : a * g = x) (g0 : 1 ≤ g) : x / g = a := by
  rw [← h]; exact Int.mul_ediv_cancel _ (by omega)
theorem Lowest.gle {n d g N D : Int} (L : Lowest n d g N D) : g ≤ 9223372036854775808 := by
  have g0 := L.gpos
  have e := L.eD
  have D0 := L.Dpos
  have d0 := L.d0
  have d1 := L.d1
  have := Int.mul_le_mul_of_nonneg_right (c := g) D0 (by omega)
  split at e <;> omega
/-- |N| = |n| / g, |D| = |d| / g -/
theorem Lowest.quo {n d g N D : Int} (L : Lowest n d g N D) : (if n < 0 then -n else n) / g = (if N < 0 then -N else N) ∧ (if d < 0 then -d else d) / g = D := by
  have g0 := L.gpos
  refine ⟨div_of_mul ?_ g0, div_of_mul L.eD g0⟩
  have e := L.eN
  have np : N < 0 → N * g ≤ -1 * g := fun h => Int.mul_le_mul_of_nonneg_right (by omega) (by omega)
  have pp : 0 ≤ N → 0 ≤ N * g := fun h => Int.mul_nonneg h (by omega)
  by_cases hN : N < 0
  · have := np hN
    rw [if_pos hN, Int.neg_mul]
    split at e <;> split <;> omega
  · have := pp (by omega)
    rw [if_neg hN]
    by_cases z : N = 0
    · subst z
      simp at e ⊢
      split at e <;> split <;> omega
    · have : 1 * g ≤ N * g := Int.mul_le_mul_of_nonneg_right (by omega) (by omega)
      split at e <;> split <;> omega
theorem Lowest.sign {n d g N D : Int} (L : Lowest n d g N D) : (N < 0 → (!(decide (n < 0) == decide (d < 0))) = true) ∧ (0 < N → (!(decide (n < 0) == decide (d < 0))) = false) ∧ (N = 0 → n = 0) := by
  have g0 := L.gpos
  have e := L.eN
  have np : N < 0 → N * g ≤ -1 * g := fun h => Int.mul_le_mul_of_nonneg_right (by omega) (by omega)
  have pp : 1 ≤ N → 1 * g ≤ N * g := fun h => Int.mul_le_mul_of_nonneg_right (by omega) (by omega)
  refine ⟨fun h => ?_, fun h => ?_, fun h => ?_⟩
  · have := np h
    by_cases hd : d < 0
    · rw [if_pos hd] at e
      simp [hd]; omega
    · rw [if_neg hd] at e
      simp [hd]; omega
  · have := pp (by omega)
    by_cases hd : d < 0
    · rw [if_pos hd] at e
      simp [hd]; omega
    · rw [if_neg hd] at e
      simp [hd]; omega
  · subst h
    simp at e
    split at e <;> omega

theorem Lowest.Nle {n d g N D : Int} (L : Lowest n d g N D) : (if N < 0 then -N else N) ≤ 9223372036854775808 ∧ D ≤ 9223372036854775808 := by
  obtain ⟨q1, q2⟩ := L.quo
  have g0 := L.gpos
  have n0 := L.n0
  have n1 := L.n1
  have d0 := L.d0
  have d1 := L.d1
  have a0 : 0 ≤ (if n < 0 then -n else n) := by split <;> omega
  have b0 : 0 ≤ (if d < 0 then -d else d) := by split <;> omega
  have h1 := Int.ediv_le_self g a0
  have h2 := Int.ediv_le_self g b0
  rw [q1] at h1
  rw [q2] at h2
  constructor
  · split at h1 <;> split at h1 <;> omega
  · split at h2 <;> omega
end Go.Proofs.Ytmelbgabiklojaa
