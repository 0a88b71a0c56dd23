/- speaks of layer 2; lowest terms may be. -/
import Derived.Test.YtmelbgabiklojaaRatioC
import Derived.Test.YtmelbgabiklojaaRefC
import Derived.Test.YtmelbgabiklojaaRefD
import Derived.WalkKit
import Derived.WalkSpells
import Derived.WalkLawsBesides
import Derived.Handy
import Derived.Lib.Hide
import Derived.Deep.QuietTactic
import Derived.BigQuiet
import Derived.LoopTactic
import Derived.Deep.RegionHeld3
import Derived.Deep.RegionWith
import Derived.Outline
import Derived.Deep.DeepCutAuto
import Derived.RegionTactic
import Derived.BigRegion
namespace Go.Proofs.Ytmelbgabiklojaa
open Go.RowKit
set_option linter.unusedVariables false
set_option maxRecDepth 100000
set_option linter.unusedSimpArgs false



theorem Lowest.good {n d g N D : Int} (L : Lowest n d g N D) : goodB N D = true := by
  have g0 := L.gpos
  have D0 := L.Dpos
  have e1 := L.eN
  have e2 := L.eD
  have hg := L.hg
  have k : Int.gcd (N * g) (D * g) = Int.gcd n d := by
    rw [e1, e2]
    split <;> simp
  rw [Int.gcd_mul_right] at k
  have k2 : Int.gcd N D * g.natAbs = 1 * g.natAbs := by omega
  have k3 : Int.gcd N D = 1 := Nat.eq_of_mul_eq_mul_right (by omega) k2
  unfold goodB
  rw [decide_eq_true D0, k3]
  rfl
end Go.Proofs.Ytmelbgabiklojaa
/- The reference's fractions: Down. -/
namespace Go.Proofs.Ytmelbgabiklojaa
open Go.RowKit Go.Proofs.Big Go.Proofs.Reg
set_option linter.unusedVariables false
set_option linter.unusedSimpArgs false
set_option maxRecDepth 100000
end Go.Proofs.Ytmelbgabiklojaa
/- The walk of RatioMakes. -/
namespace Go.Proofs.Ytmelbgabiklojaa
open Go.RowKit Go.Proofs.Big Go.Proofs.Reg
set_option linter.unusedVariables false
set_option linter.unusedSimpArgs false
set_option maxRecDepth 100000
/-- two ints in memory -/
structure TwoI (w : World) (q : Nat) (a b : Int) : Prop where
  c0 : w.cell? ⟨q, 0, none⟩ = some (.int .i64 a)
  c1 : w.cell? ⟨q, 1, none⟩ = some (.int .i64 b)
theorem TwoI.later {w w' : World} {q : Nat} {a b : Int} (h : TwoI w q a b) (hb : Below w.heap.size w w') : TwoI w' q a b := ⟨cell_later hb h.c0, cell_later hb h.c1⟩
theorem TwoI.new (w : World) (a b : Int) (t : TypeId) : TwoI (w.alloc (.cells #[.int .i64 a, .int .i64 b] t)) w.heap.size a b := ⟨by simp [go_sem], by simp [go_sem]⟩
theorem TwoI.lt {w : World} {q : Nat} {a b : Int} (h : TwoI w q a b) : q < w.heap.size := World.block_lt_of_cell? w _ h.c0
end Go.Proofs.Ytmelbgabiklojaa
/- The walk of RatioRounds. -/
namespace Go.Proofs.Ytmelbgabiklojaa
open Go.RowKit Go.Proofs.Big Go.Proofs.Reg
set_option linter.unusedVariables false
set_option linter.unusedSimpArgs false
set_option maxRecDepth 100000
theorem half_quo (p d : Int) (d0 : 1 ≤ d) : (if d - p % d ≤ p % d then p / d + 1 else p / d) = (2 * p + d) / (2 * d) := by
  have e := Int.mul_ediv_add_emod p d
  have r0 := Int.emod_nonneg p (show d ≠ 0 by omega)
  have r1 := Int.emod_lt_of_pos p (show 0 < d by omega)
  obtain ⟨q, hq⟩ : ∃ q, q = p / d := ⟨_, rfl⟩
  obtain ⟨r, hr⟩ : ∃ r, r = p % d := ⟨_, rfl⟩
  rw [← hq, ← hr] at e ⊢
  rw [← hr] at r0 r1
  have m2 : 2 * d * q = 2 * (d * q) := by rw [Int.mul_assoc]
  have m3 : 2 * d * (q + 1) = 2 * (d * q) + 2 * d := by rw [Int.mul_add, m2]; omega
  by_cases c : d - r ≤ r
  · rw [if_pos c]
    exact ((Int.ediv_emod_unique (a := 2 * p + d) (r := 2 * r - d) (q := q + 1) (show 0 < 2 * d by omega)).2 ⟨by rw [m3]; omega, by omega, by omega⟩).1.symm
  · rw [if_neg c]
    exact ((Int.ediv_emod_unique (a := 2 * p + d) (r := 2 * r + d) (q := q) (show 0 < 2 * d by omega)).2 ⟨by rw [m2]; omega, by omega, by omega⟩).1.symm
/-- a number, or that it is none: what the program says -/
structure Said (q A er : Int) (f : Bool) (k : Int) : Prop where
  hf : f = decide (-9223372036854775808 ≤ q ∧ q < 9223372036854775808)
  hk : k = if -9223372036854775808 ≤ q ∧ q < 9223372036854775808 then q else 0
  h : (f = true ∧ er = 0 ∧ A = k) ∨ (f = false ∧ er = 2 ∧ A = 0 ∧ k = 0)
theorem said_ex (q : Int) : ∃ A er f k, Said q A er f k ∧ ((-9223372036854775808 ≤ q ∧ q ≤ 9223372036854775807 ∧ A = q ∧ er = 0) ∨ (¬ (-9223372036854775808 ≤ q ∧ q ≤ 9223372036854775807) ∧ A = 0 ∧ er = 2)) := by
  by_cases c : -9223372036854775808 ≤ q ∧ q < 9223372036854775808
  · exact ⟨q, 0, true, q, ⟨by rw [decide_eq_true c], by rw [if_pos c], .inl ⟨rfl, rfl, rfl⟩⟩, .inl ⟨c.1, by omega, rfl, rfl⟩⟩
  · exact ⟨0, 2, false, 0, ⟨by rw [decide_eq_false c], by rw [if_neg c], .inr ⟨rfl, rfl, rfl, rfl⟩⟩, .inr ⟨by omega, rfl, rfl⟩⟩
end Go.Proofs.Ytmelbgabiklojaa
