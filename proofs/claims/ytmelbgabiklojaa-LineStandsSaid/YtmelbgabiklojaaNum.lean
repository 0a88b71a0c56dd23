/- Plain arithmetic: no program in sight. -/
import Derived.Lib.ItoaNum
import Derived.Lib.BitFns
import Derived.Laws.BitsAllLaws
import Derived.Laws.Bits64
import Derived.Lib.Hide
namespace Go.Proofs.Num
set_option linter.unusedVariables false
open Go.RowKit

/-- masking by 32 bits -/
theorem and_mask (x : Int) (h0 : 0 ≤ x) (h1 : x < 18446744073709551616) : bits BinOp.and IntKind.u64 x 4294967295 = x % 4294967296 := by
  obtain ⟨n, rfl⟩ := Int.eq_ofNat_of_zero_le h0
  have h := u64_and_nat n 4294967295 (by omega) (by decide)
  rw [show ((4294967295 : Nat) : Int) = 4294967295 from rfl] at h
  rw [h, show (4294967295 : Nat) = 2 ^ 32 - 1 from rfl, Nat.and_two_pow_sub_one_eq_mod]
  omega

theorem or_join (hi l : Int) (s : Nat) (h0 : 0 ≤ hi) (h1 : hi * 2 ^ s < 18446744073709551616) (l0 : 0 ≤ l) (l1 : l < 2 ^ s) (_hs : s ≤ 64) :
    bits BinOp.or IntKind.u64 (IntKind.u64.wrap (hi * 2 ^ s)) l = hi * 2 ^ s + l := by
  obtain ⟨a, rfl⟩ := Int.eq_ofNat_of_zero_le h0
  obtain ⟨b, rfl⟩ := Int.eq_ofNat_of_zero_le l0
  have e : ((a : Int) * 2 ^ s) = ((a * 2 ^ s : Nat) : Int) := by simp
  have e2 : ((2 : Int) ^ s) = ((2 ^ s : Nat) : Int) := by simp
  rw [e2] at l1
  rw [e] at h1 ⊢
  have p : (2 : Nat) ^ s ≤ 2 ^ 64 := Nat.pow_le_pow_right (by decide) _hs
  rw [IntKind.wrap_u64]
  rw [Int.emod_eq_of_lt (by omega) h1]
  rw [u64_or_nat _ _ (by omega) (by omega)]
  have := Nat.shiftLeft_add_eq_or_of_lt (i := s) (b := b) (by omega) a
  rw [Nat.shiftLeft_eq] at this
  rw [← this]
  omega

/-- the number of bits: what the shift makes of a divisor -/
theorem norm_shift (y : Int) (h0 : 0 < y) (h1 : y < 18446744073709551616) : ∃ s : Nat, (64 - (Lib.bitLen y.toNat : Int)) = s ∧ s ≤ 63 ∧ 9223372036854775808 ≤ y * 2 ^ s ∧ y * 2 ^ s < 18446744073709551616 := by
  obtain ⟨n, rfl⟩ := Int.eq_ofNat_of_zero_le (Int.le_of_lt h0)
  obtain ⟨p, q, r⟩ := Lib.bitLenAux_bounds 64 n (by omega) (by omega)
  have le := Lib.bitLen_le n 64 (by decide) (by omega)
  simp only [Int.toNat_natCast]
  unfold Lib.bitLen at *
  refine ⟨64 - Lib.bitLenAux 64 n, by omega, by omega, ?_, ?_⟩
  · have e : 2 ^ (Lib.bitLenAux 64 n - 1) * 2 ^ (64 - Lib.bitLenAux 64 n) = 2 ^ 63 := by rw [← Nat.pow_add]; congr 1; omega
    have := Nat.mul_le_mul_right (2 ^ (64 - Lib.bitLenAux 64 n)) q
    rw [e] at this
    have e3 : ((n : Int) * 2 ^ (64 - Lib.bitLenAux 64 n)) = ((n * 2 ^ (64 - Lib.bitLenAux 64 n) : Nat) : Int) := by simp
    rw [e3]; omega
  · have e : 2 ^ (Lib.bitLenAux 64 n) * 2 ^ (64 - Lib.bitLenAux 64 n) = 2 ^ 64 := by rw [← Nat.pow_add]; congr 1; omega
    have := Nat.mul_lt_mul_of_pos_right r (Nat.two_pow_pos (64 - Lib.bitLenAux 64 n))
    rw [e] at this
    have e3 : ((n : Int) * 2 ^ (64 - Lib.bitLenAux 64 n)) = ((n * 2 ^ (64 - Lib.bitLenAux 64 n) : Nat) : Int) := by simp
    rw [e3]; omega

/-- one digit of the quotient: the guess, and when a guess is too great -/
theorem digit (a b u n : Int) (a0 : 2147483648 ≤ a) (_a1 : a < 4294967296) (b0 : 0 ≤ b) (b1 : b < 4294967296) (u0 : 0 ≤ u) (u1 : u < a * 4294967296 + b) (n0 : 0 ≤ n) (n1 : n < 4294967296) :
    0 ≤ (u * 4294967296 + n) / (a * 4294967296 + b) ∧ (u * 4294967296 + n) / (a * 4294967296 + b) < 4294967296 ∧ (u * 4294967296 + n) / (a * 4294967296 + b) ≤ u / a ∧ 0 ≤ u / a ∧ u / a ≤ 4294967297 ∧
    (∀ q r : Int, q * a + r = u → 0 ≤ r → ((u * 4294967296 + n) / (a * 4294967296 + b) < q ↔ 4294967296 * r + n < q * b)) := by
  have vp : 0 < a * 4294967296 + b := by omega
  have key : ∀ q r : Int, q * a + r = u → ((u * 4294967296 + n) / (a * 4294967296 + b) < q ↔ 4294967296 * r + n < q * b) := by
    intro q r e
    rw [Int.ediv_lt_iff_lt_mul vp, Int.mul_add, ← Int.mul_assoc]
    omega
  refine ⟨Int.ediv_nonneg (by omega) (by omega), ?_, ?_, Int.ediv_nonneg u0 (by omega), ?_, fun q r e _ => key q r e⟩
  · rw [Int.ediv_lt_iff_lt_mul vp]; omega
  · have d := Int.mul_ediv_add_emod u a
    have d0 := Int.emod_nonneg u (show a ≠ 0 by omega)
    have d1 := Int.emod_lt_of_pos u (show 0 < a by omega)
    have k := key (u / a + 1) (u % a - a) (by rw [Int.add_mul, Int.mul_comm (u / a) a]; omega)
    have nn : 0 ≤ (u / a + 1) * b := Int.mul_nonneg (by have := Int.ediv_nonneg u0 (show 0 ≤ a by omega); omega) b0
    have : 4294967296 * (u % a - a) + n < (u / a + 1) * b := by omega
    have := k.2 this
    omega
  · have : u / a < 4294967298 := by
      rw [Int.ediv_lt_iff_lt_mul (by omega)]; omega
    omega

theorem recompose (N S y u n1 n0 : Int) (Sp : 0 < S) (y0 : 0 < y) (e : N * S = u * 18446744073709551616 + n1 * 4294967296 + n0) (n10 : 0 ≤ n1) (n11 : n1 < 4294967296) (n00 : 0 ≤ n0) (n01 : n0 < 4294967296) (R1 Q1 Q0 R0 : Int)
    (d1 : u * 4294967296 + n1 = Q1 * (y * S) + R1) (d0 : R1 * 4294967296 + n0 = Q0 * (y * S) + R0) (r0 : 0 ≤ R0) (r1 : R0 < y * S) :
    N / y = Q1 * 4294967296 + Q0 ∧ N % y = R0 / S := by
  have t : N * S = (Q1 * 4294967296 + Q0) * (y * S) + R0 := by
    rw [Int.add_mul, Int.mul_right_comm]
    omega
  have t2 : (N - (Q1 * 4294967296 + Q0) * y) * S = R0 := by
    rw [Int.sub_mul, Int.mul_assoc, t]; omega
  have rd : R0 / S = N - (Q1 * 4294967296 + Q0) * y := by
    rw [← t2]; exact Int.mul_ediv_cancel _ (by omega)
  have l0 : 0 ≤ R0 / S := Int.ediv_nonneg r0 (by omega)
  have l1 : R0 / S < y := by rw [Int.ediv_lt_iff_lt_mul Sp]; exact r1
  have fin : N = (Q1 * 4294967296 + Q0) * y + R0 / S := by omega
  have q := Int.ediv_emod_unique (a := N) (r := R0 / S) (q := Q1 * 4294967296 + Q0) y0
  have := q.2 ⟨by rw [Int.mul_comm y]; omega, l0, l1⟩
  exact this
end Go.Proofs.Num
