/- math/bits.Div64: for a divisor above the high word it gives the quotient and the remainder of the 128 bits. -/
import Derived.Test.YtjemnjboopabpaaRows
import Derived.Test.YtjemnjboopabpaaShelf
import Derived.Test.YtjemnjboopabpaaNum
import Derived.WalkKit
import Derived.WalkSpells
import Derived.WalkLawsBesides
import Derived.Handy
import Derived.Lib.Hide
import Derived.Deep.QuietTactic
import Derived.BigQuiet
import Derived.LoopTactic
namespace Go.Proofs.Ytjemnjboopabpaa
open Go.RowKit
set_option linter.unusedVariables false

theorem mulb (q b : Int) (q0 : 0 ≤ q) (b0 : 0 ≤ b) (q1 : q ≤ 4294967296) (b1 : b < 4294967296) : q * b ≤ 18446744069414584320 := by
  have h1 : q * b ≤ 4294967296 * b := Int.mul_le_mul_of_nonneg_right q1 b0
  omega
theorem brk {Q a b n u q r : Int} (h : ∀ q r : Int, q * a + r = u → 0 ≤ r → (Q < q ↔ 4294967296 * r + n < q * b)) (heq : q * a + r = u) (q0 : Q ≤ q) (q1 : q ≤ 4294967297) (r0 : 0 ≤ r) (r1 : r < 4294967296) (n0 : 0 ≤ n) (b0 : 0 ≤ b) (b1 : b < 4294967296) (Q0 : 0 ≤ Q) (c2 : 4294967296 ≤ r + a) (c4 : Q < q) : q = Q + 1 := by
  have h1 := h (q - 1) (r + a) (by rw [Int.sub_mul]; omega) (by omega)
  have h2 := mulb (q - 1) b (by omega) b0 (by omega) b1
  omega
open Go.Proofs.Num
theorem wrapR (u n Q v R : Int) (e : u * 4294967296 + n = Q * v + R) (r0 : 0 ≤ R) (r1 : R < 18446744073709551616) :
    IntKind.u64.wrap (IntKind.u64.wrap (IntKind.u64.wrap (u * 4294967296) + n) - IntKind.u64.wrap (Q * v)) = R := by
  simp only [IntKind.wrap_u64]
  generalize Q * v = z at *
  omega
end Go.Proofs.Ytjemnjboopabpaa
