/- The reference's fractions: Ints, Good, Down, Half. -/
import Derived.Test.YtmelbgabiklojaaRefA
import Derived.Test.YtmelbgabiklojaaBigH
import Derived.Test.YtmelbgabiklojaaRatioB
import Derived.WalkKit
import Derived.WalkSpells
import Derived.WalkLawsBesides
import Derived.Handy
import Derived.Lib.Hide
import Derived.Deep.QuietTactic
import Derived.BigQuiet
import Derived.LoopTactic
import Derived.RegionTactic
import Derived.BigRegion
import Derived.Deep.RegionHeld3
import Derived.Deep.RegionWith
import Derived.Outline
import Derived.Deep.DeepCutAuto
namespace Go.Proofs.Ytmelbgabiklojaa
open Go.RowKit Go.Proofs.Big Go.Proofs.Reg
set_option linter.unusedVariables false
set_option linter.unusedSimpArgs false
set_option maxRecDepth 100000
theorem P98_big : 170141183460469231731687303715884105728 * 4 < P 98 := by
  have h : P 9 ≤ P 98 := P_mono (by decide)
  have e : P 9 = 22300745198530623141535718272648361505980416 := by unfold P; rfl
  omega
/-- lowest terms of two ints, as the reference has them -/
structure Low2 (n d g : Int) : Prop where
  hg : ((Int.gcd n d : Nat) : Int) = g
  gp : 1 ≤ g
  eN : (if (decide (n < 0) != decide (d < 0)) = true then -((if n < 0 then -n else n) / g) else (if n < 0 then -n else n) / g) * g = if d < 0 then -n else n
  eD : ((if d < 0 then -d else d) / g) * g = if d < 0 then -d else d
theorem low2 (n d : Int) (dz : d ≠ 0) : Low2 n d ((Int.gcd n d : Nat) : Int) := by
  have gp : 0 < Int.gcd n d := Int.gcd_pos_of_ne_zero_right n dz
  have g1 : (1 : Int) ≤ ((Int.gcd n d : Nat) : Int) := by omega
  have dn : ((Int.gcd n d : Nat) : Int) ∣ (if n < 0 then -n else n) := by
    have := Int.gcd_dvd_left (a := n) (b := d)
    split
    · exact (Int.dvd_neg).2 this
    · exact this
  have dd : ((Int.gcd n d : Nat) : Int) ∣ (if d < 0 then -d else d) := by
    have := Int.gcd_dvd_right (a := n) (b := d)
    split
    · exact (Int.dvd_neg).2 this
    · exact this
  have e1 := Int.ediv_mul_cancel dn
  have e2 := Int.ediv_mul_cancel dd
  refine ⟨rfl, g1, ?_, e2⟩
  by_cases a : n < 0 <;> by_cases b : d < 0
  · rw [decide_eq_true a, decide_eq_true b, if_pos b]
    rw [if_pos a] at e1 ⊢
    simpa using e1
  · rw [decide_eq_true a, decide_eq_false b, if_neg b]
    rw [if_pos a] at e1 ⊢
    simp only [bne_self_eq_false, Bool.true_bne, Bool.not_false, if_true, Int.neg_mul]
    omega
  · rw [decide_eq_false a, decide_eq_true b, if_pos b]
    rw [if_neg a] at e1 ⊢
    simp only [Bool.false_bne, if_true, Int.neg_mul]
    omega
  · rw [decide_eq_false a, decide_eq_false b, if_neg b]
    rw [if_neg a] at e1 ⊢
    simpa using e1
end Go.Proofs.Ytmelbgabiklojaa
