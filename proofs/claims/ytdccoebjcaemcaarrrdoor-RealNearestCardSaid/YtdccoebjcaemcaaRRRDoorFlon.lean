/- The model's float64: the nearest float of a quotient; exponents put in. Program-free. -/
import Derived.Test.YtdccoebjcaemcaaRRRDoorFlor
namespace Go.Proofs.Flo
set_option maxRecDepth 100000
set_option linter.unusedVariables false
set_option linter.unusedSimpArgs false
open Ieee
/-- a word with another exponent's field -/
theorem bits_put (x e : Nat) (hx : x < 18446744073709551616) (he : e < 2048) : bits .or .u64 (bits .andNot .u64 (x : Int) 9218868437227405312) ((e * 4503599627370496 : Nat) : Int) = ((double.word (sgn x) (e * 4503599627370496 + rung x % 4503599627370496) : Nat) : Int) := by
  have a := bits_andNot x 9218868437227405312 hx (by decide)
  rw [show (((9218868437227405312 : Nat)) : Int) = 9218868437227405312 from rfl] at a
  obtain ⟨s, hs⟩ : ∃ s, x / 9223372036854775808 = s := ⟨_, rfl⟩
  obtain ⟨g, hg⟩ : ∃ s, x % 9223372036854775808 / 4503599627370496 = s := ⟨_, rfl⟩
  obtain ⟨f, hf⟩ : ∃ s, x % 4503599627370496 = s := ⟨_, rfl⟩
  have ex : x = 2 ^ 63 * s + (2 ^ 52 * g + f) := by omega
  have af := and_fields s g f (by omega) (by omega) (by omega)
  have of := or_fields s e f (by omega) (by omega) (by omega)
  rw [a, show (18446744073709551615 - 9218868437227405312 : Nat) = 9227875636482146303 by decide, ex, af]
  have b := bits_or (2 ^ 63 * s + f) (e * 4503599627370496) (by omega) (by omega)
  rw [b, show e * 4503599627370496 = 2 ^ 52 * e by omega, of]
  unfold Format.word sgn rung
  rw [weight]
  congr 1
  have s2 : s = 0 ∨ s = 1 := by omega
  rcases s2 with rfl | rfl
  · rw [show (2 ^ 63 * 0 + (2 ^ 52 * g + f)) / 9223372036854775808 % 2 = 0 by omega]
    simp only [Nat.reduceBEq, Bool.false_eq_true, if_false]
    omega
  · rw [show (2 ^ 63 * 1 + (2 ^ 52 * g + f)) / 9223372036854775808 % 2 = 1 by omega]
    simp only [beq_self_eq_true, if_true]
    omega
theorem quo_range (X Y : Nat) (a0 : 9223372036854775808 ≤ X) (a1 : X < 18446744073709551616) (b0 : 9223372036854775808 ≤ Y) (b1 : Y < 18446744073709551616) : 2305843009213693952 ≤ X * 4611686018427387904 / Y ∧ X * 4611686018427387904 / Y < 9223372036854775808 := by
  have p : 0 < Y := by omega
  constructor
  · refine (Nat.le_div_iff_mul_le p).2 ?_
    have h1 : 2305843009213693952 * Y ≤ 2305843009213693952 * 18446744073709551616 := Nat.mul_le_mul_left _ (by omega)
    have h2 : 9223372036854775808 * 4611686018427387904 ≤ X * 4611686018427387904 := Nat.mul_le_mul_right _ a0
    exact Nat.le_trans h1 (Nat.le_trans (by decide) h2)
  · refine (Nat.div_lt_iff_lt_mul p).2 ?_
    have h1 : 9223372036854775808 * 9223372036854775808 ≤ 9223372036854775808 * Y := Nat.mul_le_mul_left _ b0
    have h2 : X * 4611686018427387904 < 18446744073709551616 * 4611686018427387904 := Nat.mul_lt_mul_of_pos_right a1 (by decide)
    exact Nat.lt_of_lt_of_le h2 (Nat.le_trans (by decide) h1)
/-- the quotient that the program takes, and its float -/
theorem quo_near (n d l r : Nat) (s : Bool) (n0 : 0 < n) (d0 : 0 < d) (hl : l ≤ 63) (hr : r ≤ 63) (a0 : 9223372036854775808 ≤ n * 2 ^ l) (a1 : n * 2 ^ l < 18446744073709551616) (b0 : 9223372036854775808 ≤ d * 2 ^ r) (b1 : d * 2 ^ r < 18446744073709551616) :
    ∃ q c k j : Nat, q = sticky (n * 2 ^ l * 4611686018427387904) (d * 2 ^ r) ∧ 2305843009213693952 ≤ q ∧ q < 9223372036854775808 ∧ (k = 9 ∨ k = 10) ∧ double.nearest false q 0 = (k + 1074) * 4503599627370496 + c ∧ 4503599627370496 ≤ c ∧ c ≤ 9007199254740992 ∧ j + 62 + l = k + 1074 + r ∧ NearB (j * 4503599627370496 + c) n d := by
  obtain ⟨qa, qb⟩ := quo_range (n * 2 ^ l) (d * 2 ^ r) a0 a1 b0 b1
  obtain ⟨q, hq⟩ : ∃ q, q = sticky (n * 2 ^ l * 4611686018427387904) (d * 2 ^ r) := ⟨_, rfl⟩
  have q0 : 2305843009213693952 ≤ q ∧ q < 9223372036854775808 := by
    rw [hq]
    unfold sticky
    rw [or_one]
    generalize n * 2 ^ l * 4611686018427387904 / (d * 2 ^ r) = Q at *
    split <;> omega
  obtain ⟨q0, q1⟩ := q0
  obtain ⟨k, hk, k0, k1⟩ : ∃ k, (k = 9 ∨ k = 10) ∧ 2 ^ (52 + k) ≤ q ∧ q < 2 ^ (53 + k) := by
    by_cases c : q < 4611686018427387904
    · exact ⟨9, .inl rfl, by omega, by omega⟩
    · exact ⟨10, .inr rfl, by omega, by omega⟩
  obtain ⟨a, ha⟩ : ∃ a, a = 1074 := ⟨_, rfl⟩
  obtain ⟨j, hj⟩ : ∃ j, j + 62 + l = k + a + r := ⟨k + a + r - 62 - l, by omega⟩
  obtain ⟨c, c0, c1, c2, c3⟩ := near_of n d (n * 2 ^ l * 4611686018427387904) (d * 2 ^ r) (2 ^ (62 + l)) (2 ^ r) j k (2 ^ (k - 1)) false d0 rfl (Nat.two_pow_pos _) (Nat.two_pow_pos _) (by
      rw [Nat.pow_add, show (2 : Nat) ^ 62 = 4611686018427387904 by decide]; grind) (by
      rw [U_pow ha, ← Nat.pow_add, ← Nat.pow_add, ← Nat.pow_add]; congr 1; omega) (by omega) (by omega) (by
      rcases hk with rfl | rfl <;> decide) (by rw [← hq]; exact k0) (by rw [← hq]; exact k1)
  rw [← hq] at c0
  refine ⟨q, c, k, j, hq, q0, q1, hk, ?_, c1, c2, by omega, c3⟩
  have lg : q.log2 = 52 + k := log2_of k0 (by rw [show 52 + k + 1 = 53 + k by omega]; exact k1)
  unfold Format.nearest
  rw [if_neg (by omega), fb, lp, bin, infr, lg]
  simp only
  rw [show max (0 + ((52 + k : Nat) : Int) - ((52 : Nat) : Int)) (-1074) = (k : Int) by omega]
  rw [show (0 - (k : Int)).toNat = 0 by omega, show ((k : Int) - 0).toNat = k by omega, show ((k : Int) - -1074).toNat = k + 1074 by omega, Nat.shiftLeft_zero, c0, Nat.min_eq_left (by omega)]
  rfl
end Go.Proofs.Flo
