/- Package wide: what each function returns, and that of memory only new blocks are laid. -/
import Derived.Test.YtjemnjboopabpaaRows
import Derived.Test.YtjemnjboopabpaaShelf
import Derived.Test.YtjemnjboopabpaaNum
import Derived.Test.YtjemnjboopabpaaDiv64
import Derived.Test.YtjemnjboopabpaaWideB
import Derived.WalkKit
import Derived.WalkSpells
import Derived.WalkLawsBesides
import Derived.Handy
import Derived.Lib.Hide
import Derived.Deep.QuietTactic
import Derived.BigQuiet
import Derived.Deep.RegionHeld3
import Derived.Deep.RegionWith
import Derived.Shelf.Spec.BitsCarry
namespace Go.Proofs.Ytjemnjboopabpaa
open Go.RowKit
set_option linter.unusedVariables false

theorem below_drewN {B : Nat} {a w : World} (h : Below B a w) (n : Nat) : Below B a (w.drewN n) := ⟨h.os, h.tape, h.output, h.size, h.block⟩
theorem two_step (u b m : Int) (m0 : 0 < m) (u0 : 0 ≤ u) (b0 : 0 ≤ b) :
    (u * 18446744073709551616 + b) / m = u / m * 18446744073709551616 + (u % m * 18446744073709551616 + b) / m ∧ (u * 18446744073709551616 + b) % m = (u % m * 18446744073709551616 + b) % m := by
  have d := Int.mul_ediv_add_emod u m
  have e : u * 18446744073709551616 + b = (u % m * 18446744073709551616 + b) + m * (u / m * 18446744073709551616) := by
    rw [← Int.mul_assoc]; omega
  rw [e, Int.add_mul_ediv_left _ _ (by omega), Int.add_mul_emod_self_left]
  exact ⟨by omega, rfl⟩
end Go.Proofs.Ytjemnjboopabpaa
