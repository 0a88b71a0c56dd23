/- The model's float64: sixty-four times a number, less the whole number that it is rounded to, is exact and at most a half. Program-free. -/
import Derived.Test.YtfhepaiefdmlcaaDoorFlor
namespace Go.Proofs.Flo
set_option linter.unusedVariables false
set_option linter.unusedSimpArgs false
open Ieee
theorem nearest_zero (s : Bool) (p : Int) : double.nearest s 0 p = double.word s 0 := by
  unfold Format.nearest
  rw [if_pos rfl]
theorem nearest_exact' (s : Bool) (r m a b : Nat) (h1 : r < 9218868437227405312) (p : Int) (hp : p = -1074 + a - b) (he : m * 2 ^ a = mag r * 2 ^ b) : double.nearest s m p = double.word s r := by
  by_cases z : r = 0
  · subst z
    rw [mag_zero, Nat.zero_mul] at he
    have : m = 0 := by
      rcases Nat.mul_eq_zero.1 he with h | h
      · exact h
      · have := Nat.two_pow_pos a; omega
    subst this
    exact nearest_zero s p
  · exact nearest_exact s r m a b (by omega) h1 p hp he
theorem mul_exact' (x y r : Nat) (hx : rung x < 9218868437227405312) (hy : rung y < 9218868437227405312) (h1 : r < 9218868437227405312) (e : mag (rung x) * mag (rung y) = mag r * U) : double.mul x y = some (double.word (sgn x ^^ sgn y) r) := by
  obtain ⟨m, k, e1, hm⟩ := read_num x hx
  obtain ⟨n, l, e2, hn⟩ := read_num y hy
  unfold Format.mul
  rw [e1, e2]
  simp only [Datum.product, Option.map_some, Format.write]
  obtain ⟨a, ha⟩ : ∃ a, a = 1074 := ⟨_, rfl⟩
  rw [lp, nearest_exact' _ r (m * n) (k + l) a h1 _ (by omega) (by rw [← U_pow ha, ← e, ← hm, ← hn, Nat.pow_add, Nat.mul_mul_mul_comm])]
theorem mag_64 : mag 4634204016564240384 = 64 * U := by
  have := mag_norm 4503599627370496 1028 (by decide) (by decide)
  rw [show 1028 * 4503599627370496 + 4503599627370496 = 4634204016564240384 by decide] at this
  obtain ⟨b, hb⟩ : ∃ b, b = 1028 := ⟨_, rfl⟩
  rw [← hb] at this
  rw [this, U_pow (show b + 46 = 1074 by omega), Nat.pow_add, show (4503599627370496 : Nat) = 64 * 2 ^ 46 by decide]
  grind
theorem mag_half : 2 * mag 4602678819172646912 = U := by
  have := mag_norm 4503599627370496 1021 (by decide) (by decide)
  rw [show 1021 * 4503599627370496 + 4503599627370496 = 4602678819172646912 by decide] at this
  obtain ⟨b, hb⟩ : ∃ b, b = 1021 := ⟨_, rfl⟩
  rw [← hb] at this
  rw [this, U_pow (show b + 52 + 1 = 1074 by omega), Nat.pow_add, Nat.pow_add, show (4503599627370496 : Nat) = 2 ^ 52 by decide]
  grind
theorem sgn_of {x : Nat} (h : rung x < 9218868437227405312) : sval x = sg (sgn x) (mag (rung x)) := rfl
theorem sg_abs (s : Bool) (n : Nat) : (sg s n).natAbs = n := by unfold sg; cases s <;> simp
theorem sg_neg (s : Bool) (n : Nat) : sg (!s) n = - sg s n := by unfold sg; cases s <;> simp
/-- a difference that a word can hold -/
theorem sub_exact (x y t : Nat) (hx : rung x < 9218868437227405312) (hy : rung y < 9218868437227405312) (ht : t < 9218868437227405312) (e : mag t = (sval x - sval y).natAbs) : ∃ s, double.sub x y = some (double.word s t) := by
  obtain ⟨m, k, e1, hm⟩ := read_num x hx
  obtain ⟨n, l, e2, hn⟩ := read_num y hy
  unfold Format.sub
  rw [e1, e2]
  simp only [Datum.sum, Datum.opposite, Option.map_some, Format.write]
  rw [lp]
  obtain ⟨b, hb⟩ : ∃ b, b = min k l := ⟨_, rfl⟩
  rw [show min (-1074 + (k : Int)) (-1074 + (l : Int)) = -1074 + (b : Int) by omega, show (-1074 + (k : Int) - (-1074 + (b : Int))).toNat = k - b by omega, show (-1074 + (l : Int) - (-1074 + (b : Int))).toNat = l - b by omega]
  have key : ∀ s : Bool, double.nearest s (signed (sgn x) m (k - b) + signed (!sgn y) n (l - b)).natAbs (-1074 + (b : Int)) = double.word s t := by
    intro s
    refine nearest_exact' _ t _ b 0 ht _ (by omega) ?_
    rw [Nat.pow_zero, Nat.mul_one, e, signed_sg, signed_sg, sg_neg]
    show _ = (sg (sgn x) (mag (rung x)) - sg (sgn y) (mag (rung y))).natAbs
    rw [← hm, ← hn]
    have pk : (2 : Nat) ^ k = 2 ^ (k - b) * 2 ^ b := by rw [← Nat.pow_add]; congr 1; omega
    have pl : (2 : Nat) ^ l = 2 ^ (l - b) * 2 ^ b := by rw [← Nat.pow_add]; congr 1; omega
    rw [pk, pl, ← Nat.mul_assoc, ← Nat.mul_assoc]
    generalize m * 2 ^ (k - b) = M
    generalize n * 2 ^ (l - b) = N'
    rw [← sg_mul (sgn x) M, ← sg_mul (sgn y) N', ← Int.sub_mul, Int.natAbs_mul, Int.natAbs_natCast, ← Int.sub_eq_add_neg]
  exact ⟨_, congrArg some (key _)⟩
/-- the numbers: sixty-four times a number is a word; its distance from its nearest whole number too -/
theorem times_64 (x : Nat) (n : Int) (hx : rung x < 9218868437227405312) (hn : gridR (sval x) 64 = n) (h : n.natAbs ≤ 1073741824) :
    ∃ y, double.mul 4634204016564240384 x = some y ∧ y < 18446744073709551616 ∧ rung y < 9218868437227405312 ∧ sval y = 64 * sval x ∧ 2 * (sval y - n * U).natAbs ≤ U := by
  have up := U_int
  have b1 : 2 * (64 * sval x - n * U) < U ∧ -(U : Int) ≤ 2 * (64 * sval x - n * U) := by
    unfold gridR at hn
    have a := Int.emod_add_mul_ediv (2 * sval x * 64 + U) (2 * U)
    have b := Int.emod_nonneg (2 * sval x * 64 + U) (show (2 * (U : Int)) ≠ 0 by omega)
    have c := Int.emod_lt_of_pos (2 * sval x * 64 + U) (show 0 < (2 * (U : Int)) by omega)
    rw [hn, show 2 * (U : Int) * n = 2 * (n * U) by grind] at a
    omega
  have b2 : mag (rung x) * 64 ≤ 1073741825 * U := by
    have e : (sval x).natAbs = mag (rung x) := sg_abs _ _
    have q1 : n * U ≤ 1073741824 * U := Int.mul_le_mul_of_nonneg_right (by omega) (by omega)
    have q2 : -1073741824 * U ≤ n * U := Int.mul_le_mul_of_nonneg_right (by omega) (by omega)
    omega
  have ex : ∃ t, mag t = mag (rung x) * 64 ∧ t < 9218868437227405312 := by
    by_cases z : rung x = 0
    · exact ⟨0, by rw [z, mag_zero], by decide⟩
    · obtain ⟨c, j, e, c0, c1, c2, ej⟩ := mag_parts (rung x) (by omega)
      have hj : j + 6 ≤ 2045 := by
        by_cases q : j + 6 ≤ 2045
        · exact q
        · exfalso
          obtain ⟨a, ha⟩ : ∃ a, a = 1074 := ⟨_, rfl⟩
          have : 2 ^ (a + 31) ≤ 2 ^ j := Nat.pow_le_pow_right (by decide) (by omega)
          rw [Nat.pow_add, ← U_pow ha] at this
          rw [e] at b2
          have p1 : 1 * 2 ^ j ≤ c * 2 ^ j := Nat.mul_le_mul_right _ c0
          clear ha e hn h c1 ej
          have := U_pos
          generalize c * 2 ^ j = A at *
          generalize 2 ^ j = B at *
          omega
      obtain ⟨t, e1, e2⟩ := rung_of c (j + 6) c1 hj
      exact ⟨t, by rw [e1, e, Nat.pow_add, Nat.mul_assoc], e2⟩
  obtain ⟨t, et, ht⟩ := ex
  have r64 : rung 4634204016564240384 = 4634204016564240384 := by decide
  obtain ⟨w1, w2, w3⟩ := word_rung (sgn x) t (by omega)
  have sv : sval (double.word (sgn x) t) = 64 * sval x := by
    rw [sval_word _ _ (by omega), et, sgn_of hx]
    unfold sg
    cases sgn x
    · simp only [Bool.false_eq_true, if_false, Int.natCast_mul]; omega
    · simp only [if_true, Int.natCast_mul]; omega
  refine ⟨_, mul_exact' _ x t (by decide) hx ht (by rw [r64, mag_64, et]; grind), ?_, ?_, ?_, ?_⟩
  · rw [show sgn 4634204016564240384 = false by decide, Bool.false_xor]; exact w3
  · rw [show sgn 4634204016564240384 = false by decide, Bool.false_xor, w1]; exact ht
  · rw [show sgn 4634204016564240384 = false by decide, Bool.false_xor]; exact sv
  · rw [show sgn 4634204016564240384 = false by decide, Bool.false_xor, sv]
    omega
theorem dist_half (y : Nat) (n : Int) (hy : rung y < 9218868437227405312) (h : 2 * (sval y - n * U).natAbs ≤ U) : ∃ t, mag t = (sval y - n * U).natAbs ∧ t ≤ 4602678819172646912 := by
  have le : ∀ t, mag t = (sval y - n * U).natAbs → t ≤ 4602678819172646912 := by
    intro t e
    have mh := mag_half
    rw [← e, ← mh] at h
    by_cases c : t ≤ 4602678819172646912
    · exact c
    · have := mag_mono (show 4602678819172646912 < t by omega)
      omega
  suffices ∃ t, mag t = (sval y - n * U).natAbs by
    obtain ⟨t, e⟩ := this
    exact ⟨t, e, le t e⟩
  by_cases z : n = 0
  · subst z
    exact ⟨rung y, by rw [Int.zero_mul, Int.sub_zero, sgn_of hy, sg_abs]⟩
  · -- at least a half: every place is a multiple of 2 ^ 1021
    obtain ⟨b, hb⟩ : ∃ b, b = 1021 := ⟨_, rfl⟩
    have up := U_int
    have big : U ≤ 2 * mag (rung y) := by
      have e : (sval y).natAbs = mag (rung y) := sg_abs _ _
      have q : (U : Int) ≤ (n * U).natAbs := by
        rw [Int.natAbs_mul, Int.natAbs_natCast, Int.natCast_mul]
        have := Int.mul_le_mul_of_nonneg_right (show (1 : Int) ≤ n.natAbs by omega) (show (0 : Int) ≤ U by omega)
        omega
      omega
    have ry : 4602678819172646912 ≤ rung y := by
      by_cases c : 4602678819172646912 ≤ rung y
      · exact c
      · have := mag_mono (show rung y < 4602678819172646912 by omega)
        have := mag_half
        omega
    have my : ∃ k, mag (rung y) = k * 2 ^ b := by
      rw [mag_great (by omega)]
      refine ⟨(4503599627370496 + rung y % 4503599627370496) * 2 ^ (rung y / 4503599627370496 - 1 - b), ?_⟩
      rw [Nat.mul_assoc, ← Nat.pow_add]
      congr 2
      omega
    have uu : U = 2 ^ 53 * 2 ^ b := by rw [U_pow (show b + 53 = 1074 by omega), Nat.pow_add, Nat.mul_comm]
    obtain ⟨k, hk⟩ := my
    obtain ⟨c, hc⟩ : ∃ c : Int, sval y - n * U = c * (2 ^ b : Nat) := by
      refine ⟨sg (sgn y) k - n * (2 ^ 53 : Nat), ?_⟩
      rw [sgn_of hy, hk, ← sg_mul, uu, Int.natCast_mul, Int.sub_mul, Int.mul_assoc]
    rw [hc, Int.natAbs_mul, Int.natAbs_natCast]
    have cb : c.natAbs < 9007199254740992 := by
      rw [hc, Int.natAbs_mul, Int.natAbs_natCast, uu] at h
      by_cases q : c.natAbs < 9007199254740992
      · exact q
      · exfalso
        have := Nat.mul_le_mul_right (2 ^ b) (show 2 ^ 53 ≤ c.natAbs by omega)
        have := Nat.two_pow_pos b
        omega
    obtain ⟨t, e, _⟩ := rung_of c.natAbs b cb (by omega)
    exact ⟨t, e⟩
/-- what the law computes: |64 x - n|, of which it asks that it be at most a half -/
theorem dist_any (x : Nat) (n : Int) (hx : rung x < 9218868437227405312) (hn : gridR (sval x) 64 = n) (h : n.natAbs ≤ 1073741824) :
    ∃ y f d, double.mul 4634204016564240384 x = some y ∧ double.write (.number (n < 0) n.natAbs 0) = f ∧ double.sub y f = some d ∧ d < 18446744073709551616 ∧ rung d ≤ 4602678819172646912 := by
  obtain ⟨y, e1, y1, y2, y3, y4⟩ := times_64 x n hx hn h
  obtain ⟨f, e2, f1, f2, f3, _⟩ := of_int n (by omega)
  obtain ⟨t, et, ht⟩ := dist_half y n y2 y4
  rw [← f3] at et
  obtain ⟨s, es⟩ := sub_exact y f t y2 f2 (by omega) et
  obtain ⟨w1, w2, w3⟩ := word_rung s t (by omega)
  exact ⟨y, f, _, e1, e2, es, w3, by rw [w1]; exact ht⟩
end Go.Proofs.Flo
