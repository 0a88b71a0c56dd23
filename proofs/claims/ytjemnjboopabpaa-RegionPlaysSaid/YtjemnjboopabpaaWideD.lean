/- Package wide: what each function returns, and that of memory only new blocks are laid. -/
import Derived.Test.YtjemnjboopabpaaRows
import Derived.Test.YtjemnjboopabpaaShelf
import Derived.Test.YtjemnjboopabpaaNum
import Derived.Test.YtjemnjboopabpaaDiv64
import Derived.Test.YtjemnjboopabpaaWideC
import Derived.Outline
import Derived.WalkKit
import Derived.WalkSpells
import Derived.WalkLawsBesides
import Derived.Handy
import Derived.Lib.Hide
import Derived.Deep.QuietTactic
import Derived.BigQuiet
import Derived.Deep.RegionHeld3
import Derived.Deep.RegionWith
import Derived.Shelf.Spec.BitsCarry
namespace Go.Proofs.Ytjemnjboopabpaa
open Go.RowKit
set_option linter.unusedVariables false
set_option linter.unusedSimpArgs false

/-- what the steps of a division hand on -/
structure DivSteps (a b d m uh ul qh ql R : Int) : Prop where
  a0 : -9223372036854775808 ≤ a
  a1 : a ≤ 9223372036854775807
  b0 : 0 ≤ b
  b1 : b < 18446744073709551616
  d0 : -9223372036854775808 ≤ d
  d1 : d ≤ 9223372036854775807
  dz : (d == 0) = false
  hm : m = if d < 0 then -d else d
  m0 : 0 < m
  m1 : m < 18446744073709551616
  u0 : -9223372036854775808 ≤ uh
  u1 : uh ≤ 9223372036854775807
  u2 : 0 ≤ ul
  u3 : ul < 18446744073709551616
  eu : a < 0 → (uh * 18446744073709551616 + ul + (a * 18446744073709551616 + b)) % 340282366920938463463374607431768211456 = 0
  eu' : ¬ a < 0 → uh = a ∧ ul = b
  q0 : -9223372036854775808 ≤ qh
  q1 : qh ≤ 9223372036854775807
  q2 : 0 ≤ ql
  q3 : ql < 18446744073709551616
  eq : (qh * 18446744073709551616 + ql - (IntKind.u64.wrap uh * 18446744073709551616 + ul) / m) % 340282366920938463463374607431768211456 = 0
  er : (IntKind.u64.wrap uh * 18446744073709551616 + ul) % m = R
  R0 : 0 ≤ R
  R1 : R ≤ 9223372036854775807
  R2 : R < m

end Go.Proofs.Ytjemnjboopabpaa
