/- Package wide: what each function returns, and that of memory only new blocks are laid. -/
import Derived.Test.YtjemnjboopabpaaRows
import Derived.Test.YtjemnjboopabpaaShelf
import Derived.Test.YtjemnjboopabpaaNum
import Derived.Test.YtjemnjboopabpaaDiv64
import Derived.Test.YtjemnjboopabpaaWide
import Derived.WalkKit
import Derived.WalkSpells
import Derived.WalkLawsBesides
import Derived.Handy
import Derived.Lib.Hide
import Derived.Deep.QuietTactic
import Derived.BigQuiet
import Derived.Deep.RegionHeld3
import Derived.Deep.RegionWith
import Derived.Shelf.Spec.BitsCarry
namespace Go.Proofs.Ytjemnjboopabpaa
open Go.RowKit
set_option linter.unusedVariables false

def cmpI (x y : Int) : Int := if x = y then 0 else if x < y then -1 else 1
theorem add_arith (a b c d h l : Int) (h0 : -9223372036854775808 ≤ a) (h1 : a ≤ 9223372036854775807) (h2 : 0 ≤ b) (h3 : b < 18446744073709551616) 
   (g0 : -9223372036854775808 ≤ c) (g1 : c ≤ 9223372036854775807) (g2 : 0 ≤ d) (g3 : d < 18446744073709551616) (p0 : -9223372036854775808 ≤ h) (p1 : h ≤ 9223372036854775807) (p2 : 0 ≤ l) (p3 : l < 18446744073709551616)
   (e : (h * 18446744073709551616 + l - (a * 18446744073709551616 + b) - (c * 18446744073709551616 + d)) % 340282366920938463463374607431768211456 = 0) :
   (b + d) % 18446744073709551616 = l ∧ wrap64 ((IntKind.u64.wrap a + IntKind.u64.wrap c + (b + d) / 18446744073709551616) % 18446744073709551616) = h := by
  simp only [wrap64, IntKind.wrap_u64]
  refine ⟨by omega, by omega⟩
end Go.Proofs.Ytjemnjboopabpaa
