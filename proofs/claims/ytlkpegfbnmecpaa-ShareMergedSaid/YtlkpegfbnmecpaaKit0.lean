/- Small lemmas on worlds; a quotient rounded down exists. -/
import Derived.Test.YtlkpegfbnmecpaaWideE
import Derived.WalkKit
import Derived.WalkSpells
import Derived.WalkLawsBesides
import Derived.Handy
import Derived.Lib.Hide
import Derived.Deep.QuietTactic
import Derived.BigQuiet
import Derived.Deep.RegionHeld3
import Derived.Deep.RegionWith
import Derived.Outline
import Derived.Deep.DeepCutAuto
namespace Go.Proofs.Ytlkpegfbnmecpaa
open Go.RowKit
set_option linter.unusedVariables false
set_option maxRecDepth 100000
set_option linter.unusedSimpArgs false

theorem keep_alloc {w : World} {a : Addr} {v : Value} {o : Obj} (h : w.cell? a = some v) : (w.alloc o).cell? a = some v := by
  obtain ⟨b, i, x⟩ := a
  have hb := World.block_lt_of_cell? w _ h
  rw [← h]
  exact World.cell?_of_block (by simpa using Below.heap_alloc w o b hb)

theorem below_step {w w4 W w6 : World} (h1 : Below w.heap.size w w4) (h2 : Below w4.heap.size w4 W) (h3 : Below W.heap.size W w6) : Below w.heap.size w w6 :=
  h1.trans ((h2.mono h1.size).trans (h3.mono (Nat.le_trans h1.size h2.size)))


theorem floor_exists (x c : Int) (dz : c ≠ 0) : ∃ q r : Int, x = q * c + r ∧ ((0 ≤ r ∧ r < c) ∨ (c < r ∧ r ≤ 0)) := by
  by_cases h : 0 < c
  · exact ⟨x / c, x % c, by have := Int.mul_ediv_add_emod x c; rw [Int.mul_comm]; omega, .inl ⟨Int.emod_nonneg _ dz, Int.emod_lt_of_pos _ h⟩⟩
  · have := Int.mul_ediv_add_emod (-x) (-c)
    have p := Int.emod_nonneg (-x) (show -c ≠ 0 by omega)
    have q := Int.emod_lt_of_pos (-x) (show 0 < -c by omega)
    refine ⟨-x / -c, -(-x % -c), ?_, .inr (by omega)⟩
    rw [Int.neg_mul] at this
    rw [Int.mul_comm]
    omega

end Go.Proofs.Ytlkpegfbnmecpaa
