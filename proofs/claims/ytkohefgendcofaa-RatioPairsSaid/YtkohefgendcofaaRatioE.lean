/- Crosswise reduction: the numbers. -/
import Derived.Test.YtkohefgendcofaaRatioB
namespace Go.Proofs.Ytkohefgendcofaa
set_option linter.unusedVariables false
set_option linter.unusedSimpArgs false
set_option maxRecDepth 100000
/-- crosswise: what is reduced, and what is left -/
structure Crs (n d m c l r a1 a2 b1 b2 : Int) : Prop where
  hl : ((Int.gcd n c : Nat) : Int) = l
  hr : ((Int.gcd m d : Nat) : Int) = r
  l1 : 1 ≤ l
  r1 : 1 ≤ r
  en : a1 * l = n
  em : a2 * r = m
  ed : b1 * r = d
  ec : b2 * l = c
theorem crs_ex (n d m c : Int) (hd : 1 ≤ d) (hc : 1 ≤ c) : ∃ l r a1 a2 b1 b2, Crs n d m c l r a1 a2 b1 b2 := by
  obtain ⟨a1, h1⟩ := Int.gcd_dvd_left (a := n) (b := c)
  obtain ⟨b2, h2⟩ := Int.gcd_dvd_right (a := n) (b := c)
  obtain ⟨a2, h3⟩ := Int.gcd_dvd_left (a := m) (b := d)
  obtain ⟨b1, h4⟩ := Int.gcd_dvd_right (a := m) (b := d)
  have g1 : 0 < Int.gcd n c := Int.gcd_pos_of_ne_zero_right n (by omega)
  have g2 : 0 < Int.gcd m d := Int.gcd_pos_of_ne_zero_right m (by omega)
  exact ⟨_, _, a1, a2, b1, b2, rfl, rfl, by omega, by omega, by rw [Int.mul_comm]; exact h1.symm, by rw [Int.mul_comm]; exact h3.symm, by rw [Int.mul_comm]; exact h4.symm, by rw [Int.mul_comm]; exact h2.symm⟩
theorem one_of_mul {a l x : Int} (h : a * l = x) (l1 : 1 ≤ l) (x1 : 1 ≤ x) : 1 ≤ a ∧ a ≤ x ∧ l ≤ x := by
  have a1 : 1 ≤ a := by
    by_cases c : 1 ≤ a
    · exact c
    · have : a * l ≤ 0 * l := Int.mul_le_mul_of_nonneg_right (by omega) (by omega)
      rw [Int.zero_mul] at this
      omega
  have h1 : a * 1 ≤ a * l := Int.mul_le_mul_of_nonneg_left l1 (by omega)
  have h2 : 1 * l ≤ a * l := Int.mul_le_mul_of_nonneg_right a1 (by omega)
  omega
/-- a factor is no greater than the number -/
theorem small_of_mul {a l x : Int} (h : a * l = x) (l1 : 1 ≤ l) (x0 : -9223372036854775808 ≤ x) (x1 : x ≤ 9223372036854775807) : -9223372036854775808 ≤ a ∧ a ≤ 9223372036854775807 := by
  by_cases c : 0 ≤ a
  · have : a * 1 ≤ a * l := Int.mul_le_mul_of_nonneg_left l1 c
    omega
  · have : -a * 1 ≤ -a * l := Int.mul_le_mul_of_nonneg_left l1 (by omega)
    rw [Int.neg_mul, Int.neg_mul] at this
    omega
theorem cop_div {x y g a b : Nat} (h : Nat.gcd x y = g) (g0 : 0 < g) (ha : a * g = x) (hb : b * g = y) : Nat.Coprime a b := by
  have : Nat.gcd (a * g) (b * g) = g := by rw [ha, hb, h]
  rw [Nat.gcd_mul_right] at this
  exact Nat.eq_of_mul_eq_mul_right g0 (by rw [this, Nat.one_mul])
theorem cop_of {x y g k a b : Nat} (h : Nat.Coprime x y) (ha : a * g = x) (hb : b * k = y) : Nat.Coprime a b := by
  refine Nat.eq_one_of_dvd_one ?_
  rw [← h]
  exact Nat.dvd_gcd (Nat.dvd_trans (Nat.gcd_dvd_left a b) ⟨g, ha.symm⟩) (Nat.dvd_trans (Nat.gcd_dvd_right a b) ⟨k, hb.symm⟩)
/-- the products' greatest common divisor -/
theorem Crs.gcd {n d m c l r a1 a2 b1 b2 : Int} (K : Crs n d m c l r a1 a2 b1 b2) (h1 : Int.gcd n d = 1) (h2 : Int.gcd m c = 1) : ((Int.gcd (n * m) (d * c) : Nat) : Int) = l * r ∧ Int.gcd (a1 * a2) (b1 * b2) = 1 := by
  obtain ⟨hl, hr, l1, r1, en, em, ed, ec⟩ := K
  obtain ⟨L, rfl⟩ := Int.eq_ofNat_of_zero_le (show 0 ≤ l by omega)
  obtain ⟨R, rfl⟩ := Int.eq_ofNat_of_zero_le (show 0 ≤ r by omega)
  have nn : a1.natAbs * L = n.natAbs := by rw [← en, Int.natAbs_mul]; simp
  have nm : a2.natAbs * R = m.natAbs := by rw [← em, Int.natAbs_mul]; simp
  have nd : b1.natAbs * R = d.natAbs := by rw [← ed, Int.natAbs_mul]; simp
  have nc : b2.natAbs * L = c.natAbs := by rw [← ec, Int.natAbs_mul]; simp
  have gl : Nat.gcd n.natAbs c.natAbs = L := by have := hl; simp only [Int.gcd] at this; omega
  have gr : Nat.gcd m.natAbs d.natAbs = R := by have := hr; simp only [Int.gcd] at this; omega
  have c1 : Nat.Coprime a1.natAbs b2.natAbs := cop_div gl (by omega) nn nc
  have c2 : Nat.Coprime a2.natAbs b1.natAbs := cop_div gr (by omega) nm nd
  have c3 : Nat.Coprime a1.natAbs b1.natAbs := cop_of h1 nn nd
  have c4 : Nat.Coprime a2.natAbs b2.natAbs := cop_of h2 nm nc
  have cc : Nat.Coprime (a1.natAbs * a2.natAbs) (b1.natAbs * b2.natAbs) := Nat.Coprime.mul_left (Nat.Coprime.mul_right c3 c1) (Nat.Coprime.mul_right c2 c4)
  have last : Int.gcd (a1 * a2) (b1 * b2) = 1 := by
    simp only [Int.gcd, Int.natAbs_mul]
    exact cc
  refine ⟨?_, last⟩
  have e1 : n * m = a1 * a2 * (L * R) := by rw [← en, ← em]; simp only [Int.mul_assoc, Int.mul_left_comm]
  have e2 : d * c = b1 * b2 * (L * R) := by rw [← ed, ← ec, Int.mul_comm (L : Int) R]; simp only [Int.mul_assoc, Int.mul_left_comm]
  rw [e1, e2, Int.gcd_mul_right, last]
  simp [Int.natAbs_mul]
end Go.Proofs.Ytkohefgendcofaa
