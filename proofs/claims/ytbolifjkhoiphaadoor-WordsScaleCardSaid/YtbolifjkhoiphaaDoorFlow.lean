/- The model's float64: a number that a word can hold is written as that word; whole parts; powers of two taken out. Program-free. -/
import Derived.Test.YtbolifjkhoiphaaDoorFlo
import Derived.Laws.FloatArith
namespace Go.Proofs.Flo
set_option linter.unusedVariables false
set_option linter.unusedSimpArgs false
open Ieee
theorem log2_of {n k : Nat} (h : 2 ^ k ≤ n) (h2 : n < 2 ^ (k + 1)) : n.log2 = k :=
  (Nat.log2_eq_iff (by have := Nat.two_pow_pos k; omega)).2 ⟨h, h2⟩
theorem log2_range {n : Nat} (h : n ≠ 0) : 2 ^ n.log2 ≤ n ∧ n < 2 ^ (n.log2 + 1) := (Nat.log2_eq_iff h).1 rfl
theorem log2_mul (n a : Nat) (h : n ≠ 0) : (n * 2 ^ a).log2 = n.log2 + a := by
  obtain ⟨h1, h2⟩ := log2_range h
  refine log2_of ?_ ?_
  · rw [Nat.pow_add]; exact Nat.mul_le_mul_right _ h1
  · rw [show n.log2 + a + 1 = (n.log2 + 1) + a by omega, Nat.pow_add]
    exact Nat.mul_lt_mul_of_pos_right h2 (Nat.two_pow_pos a)
theorem cut_none (way : Toward) (s : Bool) (n : Nat) : way.cut s n 0 = n := by
  unfold Toward.cut
  cases way <;> simp [Nat.mod_one]
theorem cut_exact (s : Bool) (c d : Nat) (hc : c ≠ 0) : Toward.even.cut s (c * 2 ^ d) d = c := by
  have e : min d ((c * 2 ^ d).log2 + 2) = d := by rw [log2_mul c d hc]; omega
  have p := Nat.two_pow_pos d
  unfold Toward.cut
  simp only [e, Nat.shiftLeft_eq, Nat.one_mul, Nat.mul_div_cancel _ p, Nat.mul_mod_left, Nat.mul_zero]
  rw [show decide (2 ^ d < 0) = false from by simp, show (2 ^ d == 0) = false from by simp]
  rfl
/-- toward zero: the whole part -/
theorem cut_zero (s : Bool) (n d : Nat) : Toward.zero.cut s n d = n / 2 ^ d := by
  unfold Toward.cut
  simp only [Nat.shiftLeft_eq, Nat.one_mul, Bool.toNat_false, Nat.add_zero]
  by_cases c : d ≤ n.log2 + 2
  · rw [Nat.min_eq_left c]
  · rw [Nat.min_eq_right (by omega)]
    by_cases z : n = 0
    · subst z; simp
    · have h := (log2_range z).2
      have h1 : 2 ^ (n.log2 + 1) ≤ 2 ^ (n.log2 + 2) := Nat.pow_le_pow_right (by decide) (by omega)
      have h2 : 2 ^ (n.log2 + 1) ≤ 2 ^ d := Nat.pow_le_pow_right (by decide) (by omega)
      rw [Nat.div_eq_of_lt (by omega), Nat.div_eq_of_lt (by omega)]
/-- a rung's digits and place -/
theorem mag_parts (r : Nat) (h : 0 < r) : ∃ c j, mag r = c * 2 ^ j ∧ 0 < c ∧ c < 9007199254740992 ∧ (j = 0 ∨ 4503599627370496 ≤ c) ∧ j * 4503599627370496 + c = r := by
  by_cases a : r < 4503599627370496
  · exact ⟨r, 0, by rw [mag_small a]; simp, h, by omega, .inl rfl, by omega⟩
  · exact ⟨_, _, mag_great (by omega), by omega, by omega, .inr (by omega), by omega⟩
theorem mag_norm (c j : Nat) (h1 : 4503599627370496 ≤ c) (h2 : c < 9007199254740992) : mag (j * 4503599627370496 + c) = c * 2 ^ j := by
  rw [mag_great (by omega), show (j * 4503599627370496 + c) / 4503599627370496 - 1 = j by omega, show 4503599627370496 + (j * 4503599627370496 + c) % 4503599627370496 = c by omega]
theorem lp : double.leastPlace = -1074 := by decide
theorem fb : double.fractionBits = 52 := by decide
/-- a number that a word can hold is written as that word -/
theorem nearest_exact (s : Bool) (r m a b : Nat) (h0 : 0 < r) (h1 : r < 9218868437227405312) (p : Int) (hp : p = -1074 + a - b) (he : m * 2 ^ a = mag r * 2 ^ b) : double.nearest s m p = double.word s r := by
  obtain ⟨c, j, e, c0, c1, c2, ej⟩ := mag_parts r h0
  have pa := Nat.two_pow_pos a
  have pb := Nat.two_pow_pos b
  have pj := Nat.two_pow_pos j
  rw [e] at he
  have m0 : m ≠ 0 := by
    intro z
    subst z
    rw [Nat.zero_mul] at he
    have := Nat.mul_pos (Nat.mul_pos c0 pj) pb
    omega
  have lg : m.log2 + a = c.log2 + j + b := by
    rw [← log2_mul m a m0, he, log2_mul _ b (by have := Nat.mul_pos c0 pj; omega), log2_mul c j (by omega)]
  have lc : c.log2 ≤ 52 := by
    have := (log2_range (n := c) (by omega)).1
    by_cases x : c.log2 ≤ 52
    · exact x
    · have : 2 ^ 53 ≤ 2 ^ c.log2 := Nat.pow_le_pow_right (by decide) (by omega)
      omega
  have lj : j = 0 ∨ c.log2 = 52 := by
    rcases c2 with c2 | c2
    · exact .inl c2
    · exact .inr (log2_of (by omega) (by omega))
  have last : max (p + (m.log2 : Int) - 52) (-1074) = -1074 + (j : Int) := by omega
  unfold Format.nearest
  rw [if_neg m0, fb, lp, bin, infr]
  simp only
  rw [show ((52 : Nat) : Int) = 52 from rfl, last, show (-1074 + (j : Int) - -1074).toNat = j by omega]
  have kept : Toward.even.cut s (m <<< (p - (-1074 + (j : Int))).toNat) (-1074 + (j : Int) - p).toNat = c := by
    rw [Nat.shiftLeft_eq]
    by_cases x : b + j ≤ a
    · rw [show (-1074 + (j : Int) - p).toNat = 0 by omega, cut_none, show (p - (-1074 + (j : Int))).toNat = a - (b + j) by omega]
      have h : m * 2 ^ (a - (b + j)) * 2 ^ (b + j) = c * 2 ^ (b + j) := by
        rw [Nat.mul_assoc, ← Nat.pow_add, show a - (b + j) + (b + j) = a by omega, he, Nat.mul_assoc, ← Nat.pow_add, Nat.add_comm b j]
      exact Nat.eq_of_mul_eq_mul_right (Nat.two_pow_pos _) h
    · rw [show (p - (-1074 + (j : Int))).toNat = 0 by omega, Nat.pow_zero, Nat.mul_one, show (-1074 + (j : Int) - p).toNat = b + j - a by omega]
      have h : m * 2 ^ a = c * 2 ^ (b + j - a) * 2 ^ a := by
        rw [he, Nat.mul_assoc, ← Nat.pow_add, Nat.mul_assoc, ← Nat.pow_add]
        congr 2
        omega
      rw [Nat.eq_of_mul_eq_mul_right pa h]
      exact cut_exact s c _ (by omega)
  rw [kept, Nat.min_eq_left (by omega), ej]
/-- every number of so many digits has a rung -/
theorem rung_of (c j : Nat) (h1 : c < 9007199254740992) (hj : j ≤ 2045) : ∃ t, mag t = c * 2 ^ j ∧ t < 9218868437227405312 := by
  by_cases z : c = 0
  · subst z; exact ⟨0, by rw [mag_zero]; simp, by decide⟩
  · obtain ⟨l1, l2⟩ := log2_range z
    have l3 : c.log2 ≤ 52 := by
      by_cases x : c.log2 ≤ 52
      · exact x
      · have : 2 ^ 53 ≤ 2 ^ c.log2 := Nat.pow_le_pow_right (by decide) (by omega)
        omega
    by_cases q : 52 - c.log2 ≤ j
    · have a1 : 2 ^ 52 ≤ c * 2 ^ (52 - c.log2) := by
        have := Nat.mul_le_mul_right (2 ^ (52 - c.log2)) l1
        rwa [← Nat.pow_add, show c.log2 + (52 - c.log2) = 52 by omega] at this
      have a2 : c * 2 ^ (52 - c.log2) < 2 ^ 53 := by
        have := Nat.mul_lt_mul_of_pos_right l2 (Nat.two_pow_pos (52 - c.log2))
        rwa [← Nat.pow_add, show c.log2 + 1 + (52 - c.log2) = 53 by omega] at this
      refine ⟨(j - (52 - c.log2)) * 4503599627370496 + c * 2 ^ (52 - c.log2), ?_, by omega⟩
      rw [mag_norm _ _ (by omega) (by omega), Nat.mul_assoc, ← Nat.pow_add]
      congr 2
      omega
    · have a2 : c * 2 ^ j < 2 ^ 52 := by
        have := Nat.mul_lt_mul_of_pos_right l2 (Nat.two_pow_pos j)
        rw [← Nat.pow_add] at this
        have : 2 ^ (c.log2 + 1 + j) ≤ 2 ^ 52 := Nat.pow_le_pow_right (by decide) (by omega)
        omega
      exact ⟨c * 2 ^ j, mag_small (by omega), by omega⟩
/-- one, in units of the least place -/
def pw (k : Nat) : Nat := 2 ^ k
def U : Nat := pw 1074
theorem U_pow {a : Nat} (h : a = 1074) : U = 2 ^ a := by subst h; rfl
theorem U_pos : 0 < U := by
  obtain ⟨a, ha⟩ : ∃ a, a = 1074 := ⟨_, rfl⟩
  rw [U_pow ha]; exact Nat.two_pow_pos a
/-- the whole part of a word, as it is read -/
theorem read_whole (x : Nat) (h : rung x < 9218868437227405312) : (double.read x).integral .zero = .number (sgn x) (mag (rung x) / U) 0 := by
  obtain ⟨m, k, e, hm⟩ := read_num x h
  obtain ⟨a, ha⟩ : ∃ a, a = 1074 := ⟨_, rfl⟩
  rw [e]
  simp only [Datum.integral]
  rw [cut_zero, lp, Nat.shiftLeft_eq, ← hm, U_pow ha]
  congr 1
  by_cases c : a ≤ k
  · rw [show (-(-1074 + (k : Int))).toNat = 0 by omega, show (-1074 + (k : Int)).toNat = k - a by omega, Nat.pow_zero, Nat.div_one]
    rw [show m * 2 ^ k = m * 2 ^ (k - a) * 2 ^ a by rw [Nat.mul_assoc, ← Nat.pow_add, show k - a + a = k by omega], Nat.mul_div_cancel _ (Nat.two_pow_pos _)]
  · rw [show (-(-1074 + (k : Int))).toNat = a - k by omega, show (-1074 + (k : Int)).toNat = 0 by omega, Nat.pow_zero, Nat.mul_one]
    rw [show (2 : Nat) ^ a = 2 ^ (a - k) * 2 ^ k by rw [← Nat.pow_add, show a - k + k = a by omega], Nat.mul_div_mul_right _ _ (Nat.two_pow_pos k)]
theorem word_rung (s : Bool) (t : Nat) (h : t < 9223372036854775808) : rung (double.word s t) = t ∧ sgn (double.word s t) = s ∧ double.word s t < 18446744073709551616 := by
  unfold Format.word
  rw [weight]
  unfold rung sgn
  cases s
  · simp only [Bool.false_eq_true, if_false]
    exact ⟨by omega, by rw [show t / 9223372036854775808 % 2 = 0 by omega]; rfl, by omega⟩
  · simp only [if_true]
    exact ⟨by omega, by rw [show (9223372036854775808 + t) / 9223372036854775808 % 2 = 1 by omega]; rfl, by omega⟩
theorem nearest_whole (s : Bool) (r m : Nat) (h0 : 0 < r) (h1 : r < 9218868437227405312) (e : m * U = mag r) : double.nearest s m 0 = double.word s r := by
  obtain ⟨a, ha⟩ : ∃ a, a = 1074 := ⟨_, rfl⟩
  exact nearest_exact s r m a 0 h0 h1 0 (by omega) (by rw [← U_pow ha, e, Nat.pow_zero, Nat.mul_one])
/-- the whole part of a number is a word -/
theorem trunc_word (x : Nat) (h : rung x < 9218868437227405312) : ∃ t, mag t = mag (rung x) / U * U ∧ t < 9218868437227405312 ∧ double.write ((double.read x).integral .zero) = double.word (sgn x) t := by
  rw [read_whole x h]
  have key : ∃ t, mag t = mag (rung x) / U * U ∧ t < 9218868437227405312 := by
    by_cases z : rung x = 0
    · exact ⟨0, by rw [z, mag_zero]; simp, by decide⟩
    · obtain ⟨c, j, e, c0, c1, c2, ej⟩ := mag_parts (rung x) (by omega)
      obtain ⟨a, ha⟩ : ∃ a, a = 1074 := ⟨_, rfl⟩
      by_cases q : a ≤ j
      · refine ⟨rung x, ?_, h⟩
        rw [e, U_pow ha, show c * 2 ^ j = c * 2 ^ (j - a) * 2 ^ a by rw [Nat.mul_assoc, ← Nat.pow_add, show j - a + a = j by omega], Nat.mul_div_cancel _ (Nat.two_pow_pos _)]
      · rw [U_pow ha]
        refine rung_of _ a ?_ (by omega)
        rw [e, show (2 : Nat) ^ a = 2 ^ (a - j) * 2 ^ j by rw [← Nat.pow_add, show a - j + j = a by omega], Nat.mul_div_mul_right _ _ (Nat.two_pow_pos j)]
        exact Nat.lt_of_le_of_lt (Nat.div_le_self _ _) c1
  obtain ⟨t, e, ht⟩ := key
  refine ⟨t, e, ht, ?_⟩
  show double.nearest _ _ _ = _
  by_cases z : t = 0
  · have : mag (rung x) / U = 0 := by
      rw [z, mag_zero] at e
      have := U_pos
      rcases Nat.mul_eq_zero.1 e.symm with y | y
      · exact y
      · omega
    rw [this, z]
    unfold Format.nearest
    rw [if_pos rfl]
  · exact nearest_whole _ t _ (by omega) ht e.symm
/-- a number as an integer -/
theorem to_int (x : Nat) (h : rung x < 9218868437227405312) : (double.read x).toInt .zero = some (sg (sgn x) (mag (rung x) / U)) := by
  unfold Datum.toInt
  rw [read_whole x h]
  simp only [signed_sg, Nat.pow_zero, Nat.mul_one]
/-- the product of two words, if a word can hold it -/
theorem mul_exact (x y r : Nat) (hx : rung x < 9218868437227405312) (hy : rung y < 9218868437227405312) (h0 : 0 < r) (h1 : r < 9218868437227405312) (e : mag (rung x) * mag (rung y) = mag r * U) : double.mul x y = some (double.word (sgn x ^^ sgn y) r) := by
  obtain ⟨m, k, e1, hm⟩ := read_num x hx
  obtain ⟨n, l, e2, hn⟩ := read_num y hy
  unfold Format.mul
  rw [e1, e2]
  simp only [Datum.product, Option.map_some, Format.write]
  obtain ⟨a, ha⟩ : ∃ a, a = 1074 := ⟨_, rfl⟩
  rw [lp, nearest_exact _ r (m * n) (k + l) a h0 h1 _ (by omega) (by rw [← U_pow ha, ← e, ← hm, ← hn, Nat.pow_add, Nat.mul_mul_mul_comm])]
theorem odd_part (n : Nat) (h : 0 < n) : ∃ o t, n = o * 2 ^ t ∧ o % 2 = 1 := by
  induction n using Nat.strongRecOn with
  | _ n ih =>
    by_cases e : n % 2 = 1
    · exact ⟨n, 0, by simp, e⟩
    · obtain ⟨o, t, a, b⟩ := ih (n / 2) (by omega) (by omega)
      exact ⟨o, t + 1, by rw [Nat.pow_succ, ← Nat.mul_assoc, ← a]; omega, b⟩
/-- the digits of a number that is not whole: odd, halved so many times -/
theorem split_facts (r t u : Nat) (h0 : 0 < r) (hn : ¬ U ∣ mag r) (ht : mag t = mag r * 2 ^ u) (t1 : 4503599627370496 ≤ t) (u1 : u ≤ 52) :
    ∃ o z h : Nat, 4503599627370496 + t % 4503599627370496 = o * 2 ^ z ∧ o % 2 = 1 ∧ z ≤ 52 ∧ 53 - (((t / 4503599627370496 : Nat) : Int) - 1022 - u) - z = h ∧ 1 ≤ h ∧ h ≤ 1126 ∧ o * U = mag r * 2 ^ h ∧ o < 9007199254740992 := by
  obtain ⟨o, z, e, ho⟩ := odd_part (4503599627370496 + t % 4503599627370496) (by omega)
  obtain ⟨a, ha⟩ : ∃ a, a = 1074 := ⟨_, rfl⟩
  have pz := Nat.two_pow_pos z
  have ob : o < 9007199254740992 := by
    have := Nat.mul_le_mul_left o (show 1 ≤ 2 ^ z by omega)
    omega
  have zb : z ≤ 52 := by
    by_cases x : z ≤ 52
    · exact x
    · have h1 : 2 ^ 53 ≤ 2 ^ z := Nat.pow_le_pow_right (by decide) (by omega)
      have h2 := Nat.mul_le_mul_right (2 ^ z) (show 1 ≤ o by omega)
      omega
  rw [mag_great t1, e] at ht
  obtain ⟨v, hv⟩ : ∃ v, t / 4503599627370496 - 1 = v := ⟨_, rfl⟩
  rw [hv, Nat.mul_assoc, ← Nat.pow_add] at ht
  have lt : z + v < a + u := by
    by_cases x : z + v < a + u
    · exact x
    · refine absurd ?_ hn
      refine ⟨o * 2 ^ (z + v - u - a), ?_⟩
      refine Nat.eq_of_mul_eq_mul_right (Nat.two_pow_pos u) ?_
      rw [← ht, U_pow ha, Nat.mul_comm (2 ^ a), Nat.mul_assoc, Nat.mul_assoc, ← Nat.pow_add, ← Nat.pow_add]
      congr 2
      omega
  refine ⟨o, z, a + u - (z + v), e, ho, zb, by omega, by omega, by omega, ?_, ob⟩
  refine Nat.eq_of_mul_eq_mul_right (Nat.two_pow_pos u) ?_
  rw [Nat.mul_right_comm (mag r), ← ht, U_pow ha, Nat.mul_assoc, Nat.mul_assoc, ← Nat.pow_add, ← Nat.pow_add]
  congr 2
  omega
/-- the last digit that is set -/
theorem and_neg (o t k : Nat) (ho : o % 2 = 1) (h : o * 2 ^ t < 2 ^ k) : (o * 2 ^ t) &&& (2 ^ k - o * 2 ^ t) = 2 ^ t := by
  have pt := Nat.two_pow_pos t
  have tk : t < k := by
    by_cases x : t < k
    · exact x
    · have h1 : 2 ^ k ≤ 2 ^ t := Nat.pow_le_pow_right (by decide) (by omega)
      have h2 := Nat.mul_le_mul_right (2 ^ t) (show 1 ≤ o by omega)
      omega
  obtain ⟨u, hu⟩ : ∃ u, o = 2 * u + 1 := ⟨o / 2, by omega⟩
  have e1 : 2 ^ k - o * 2 ^ t = 2 ^ t * (2 ^ (k - t) - o) := by
    rw [Nat.mul_sub, ← Nat.pow_add, show t + (k - t) = k by omega, Nat.mul_comm o]
  have ub : o < 2 ^ (k - t) := by
    rw [show k = (k - t) + t by omega, Nat.pow_add] at h
    exact Nat.lt_of_mul_lt_mul_right h
  have p2 : 2 ^ (k - t) = 2 * 2 ^ (k - t - 1) := by
    rw [show k - t = (k - t - 1) + 1 by omega, Nat.pow_succ, Nat.mul_comm]
    congr 2
  have uu : u < 2 ^ (k - t - 1) := by omega
  rw [e1, Nat.mul_comm o]
  refine Nat.eq_of_testBit_eq fun i => ?_
  rw [Nat.testBit_and, Nat.testBit_two_pow_mul, Nat.testBit_two_pow_mul, Nat.testBit_two_pow]
  by_cases x : t ≤ i
  · obtain ⟨j, rfl⟩ : ∃ j, i = t + j := ⟨i - t, by omega⟩
    rw [show t + j - t = j by omega]
    cases j with
    | zero =>
      have a1 : o.testBit 0 = true := by simp [Nat.testBit_zero, ho]
      have a2 : (2 ^ (k - t) - o).testBit 0 = true := by
        simp only [Nat.testBit_zero]
        exact decide_eq_true (by omega)
      simp [a1, a2]
    | succ j =>
      have a1 : o.testBit (j + 1) = u.testBit j := by rw [Nat.testBit_add_one, show o / 2 = u by omega]
      have a2 : (2 ^ (k - t) - o).testBit (j + 1) = (decide (j < k - t - 1) && !u.testBit j) := by
        rw [Nat.testBit_add_one, show (2 ^ (k - t) - o) / 2 = 2 ^ (k - t - 1) - (u + 1) by omega, Nat.testBit_two_pow_sub_succ uu]
      rw [a1, a2, decide_eq_false (show ¬ t = t + (j + 1) by omega)]
      cases u.testBit j <;> simp
  · rw [decide_eq_false x, decide_eq_false (show ¬ t = i by omega)]
    rfl
/-- the fields of a word: what a mask keeps, what is put in -/
theorem and_fields (s e f : Nat) (hs : s < 2) (he : e < 2048) (hf : f < 4503599627370496) : (2 ^ 63 * s + (2 ^ 52 * e + f)) &&& 9227875636482146303 = 2 ^ 63 * s + f := by
  refine Nat.eq_of_testBit_eq fun i => ?_
  rw [Nat.testBit_and, show (9227875636482146303 : Nat) = 2 ^ 63 * 1 + (2 ^ 52 * 0 + (2 ^ 52 - 1)) by decide]
  rw [Nat.testBit_two_pow_mul_add s (by omega), Nat.testBit_two_pow_mul_add 1 (by decide), Nat.testBit_two_pow_mul_add s (by omega)]
  by_cases a : i < 63
  · rw [if_pos a, if_pos a, if_pos a, Nat.testBit_two_pow_mul_add e (by omega), Nat.testBit_two_pow_mul_add 0 (by decide)]
    by_cases b : i < 52
    · rw [if_pos b, if_pos b, Nat.testBit_two_pow_sub_one, decide_eq_true b, Bool.and_true]
    · rw [if_neg b, if_neg b, Nat.zero_testBit, Bool.and_false]
      rw [Nat.testBit_lt_two_pow (Nat.lt_of_lt_of_le (show f < 2 ^ 52 by omega) (Nat.pow_le_pow_right (by decide) (by omega)))]
  · rw [if_neg a, if_neg a, if_neg a]
    by_cases c : i = 63
    · subst c; simp [Nat.testBit_zero]
    · have : s.testBit (i - 63) = false := Nat.testBit_lt_two_pow (Nat.lt_of_lt_of_le (show s < 2 ^ 1 by omega) (Nat.pow_le_pow_right (by decide) (by omega)))
      rw [this]; rfl
theorem or_fields (s e f : Nat) (hs : s < 2) (he : e < 2048) (hf : f < 4503599627370496) : (2 ^ 63 * s + f) ||| (2 ^ 52 * e) = 2 ^ 63 * s + (2 ^ 52 * e + f) := by
  refine Nat.eq_of_testBit_eq fun i => ?_
  rw [Nat.testBit_or, show 2 ^ 52 * e = 2 ^ 63 * 0 + (2 ^ 52 * e + 0) by simp]
  rw [Nat.testBit_two_pow_mul_add s (by omega), Nat.testBit_two_pow_mul_add 0 (by omega), show 2 ^ 63 * 0 + (2 ^ 52 * e + 0) + f = 2 ^ 52 * e + f by omega, Nat.testBit_two_pow_mul_add s (by omega)]
  by_cases a : i < 63
  · rw [if_pos a, if_pos a, if_pos a, Nat.testBit_two_pow_mul_add e (by decide), Nat.testBit_two_pow_mul_add e (by omega)]
    by_cases b : i < 52
    · rw [if_pos b, if_pos b, Nat.zero_testBit, Bool.or_false]
    · rw [if_neg b, if_neg b, Nat.testBit_lt_two_pow (Nat.lt_of_lt_of_le (show f < 2 ^ 52 by omega) (Nat.pow_le_pow_right (by decide) (by omega))), Bool.false_or]
  · rw [if_neg a, if_neg a, if_neg a, Nat.zero_testBit, Bool.or_false]
theorem bv_nat (x : Nat) (hx : x < 18446744073709551616) : (BitVec.ofInt 64 (x : Int)).toNat = x := by simp; omega
theorem bits_and (x y : Nat) (hx : x < 18446744073709551616) (hy : y < 18446744073709551616) : bits .and .u64 (x : Int) (y : Int) = ((x &&& y : Nat) : Int) := by
  show IntKind.u64.wrap ((BitVec.ofInt 64 (x : Int) &&& BitVec.ofInt 64 (y : Int)).toNat : Int) = _
  rw [BitVec.toNat_and, bv_nat x hx, bv_nat y hy, IntKind.wrap_u64]
  have : x &&& y ≤ x := Nat.and_le_left
  omega
theorem bits_or (x y : Nat) (hx : x < 18446744073709551616) (hy : y < 18446744073709551616) : bits .or .u64 (x : Int) (y : Int) = ((x ||| y : Nat) : Int) := by
  show IntKind.u64.wrap ((BitVec.ofInt 64 (x : Int) ||| BitVec.ofInt 64 (y : Int)).toNat : Int) = _
  rw [BitVec.toNat_or, bv_nat x hx, bv_nat y hy, IntKind.wrap_u64]
  have : x ||| y < 2 ^ 64 := Nat.or_lt_two_pow (by omega) (by omega)
  omega
theorem bits_andNot (x y : Nat) (hx : x < 18446744073709551616) (hy : y < 18446744073709551616) : bits .andNot .u64 (x : Int) (y : Int) = ((x &&& (18446744073709551615 - y) : Nat) : Int) := by
  show IntKind.u64.wrap ((BitVec.ofInt 64 (x : Int) &&& ~~~ BitVec.ofInt 64 (y : Int)).toNat : Int) = _
  rw [BitVec.toNat_and, BitVec.toNat_not, bv_nat x hx, bv_nat y hy, IntKind.wrap_u64]
  have : x &&& (18446744073709551615 - y) ≤ x := Nat.and_le_left
  rw [show 2 ^ 64 - 1 - y = 18446744073709551615 - y by omega]
  omega
/-- the exponent's field -/
theorem bits_exp (x : Nat) (hx : x < 18446744073709551616) : bits .and .u64 ((x / 4503599627370496 : Nat) : Int) 2047 = ((rung x / 4503599627370496 : Nat) : Int) := by
  have h := bits_and (x / 4503599627370496) 2047 (by omega) (by decide)
  rw [show (((2047 : Nat)) : Int) = 2047 from rfl] at h
  rw [h, show (2047 : Nat) = 2 ^ 11 - 1 by decide, Nat.and_two_pow_sub_one_eq_mod]
  unfold rung
  congr 1
  omega
/-- a word with the exponent's field of a half to one -/
theorem bits_half (x : Nat) (hx : x < 18446744073709551616) : bits .or .u64 (bits .andNot .u64 (x : Int) 9218868437227405312) 4602678819172646912 = ((double.word (sgn x) (4602678819172646912 + rung x % 4503599627370496) : Nat) : Int) := by
  have a := bits_andNot x 9218868437227405312 hx (by decide)
  rw [show (((9218868437227405312 : Nat)) : Int) = 9218868437227405312 from rfl] at a
  obtain ⟨s, hs⟩ : ∃ s, x / 9223372036854775808 = s := ⟨_, rfl⟩
  obtain ⟨e, he⟩ : ∃ s, x % 9223372036854775808 / 4503599627370496 = s := ⟨_, rfl⟩
  obtain ⟨f, hf⟩ : ∃ s, x % 4503599627370496 = s := ⟨_, rfl⟩
  have ex : x = 2 ^ 63 * s + (2 ^ 52 * e + f) := by omega
  have af := and_fields s e f (by omega) (by omega) (by omega)
  have of := or_fields s 1022 f (by omega) (by omega) (by omega)
  rw [a, show (18446744073709551615 - 9218868437227405312 : Nat) = 9227875636482146303 by decide, ex, af]
  have b := bits_or (2 ^ 63 * s + f) 4602678819172646912 (by omega) (by decide)
  rw [show (((4602678819172646912 : Nat)) : Int) = 4602678819172646912 from rfl] at b
  rw [b, show (4602678819172646912 : Nat) = 2 ^ 52 * 1022 by decide, of]
  unfold Format.word sgn rung
  rw [weight]
  congr 1
  have s2 : s = 0 ∨ s = 1 := by omega
  rcases s2 with rfl | rfl
  · rw [show (2 ^ 63 * 0 + (2 ^ 52 * e + f)) / 9223372036854775808 % 2 = 0 by omega]
    simp only [Nat.reduceBEq, Bool.false_eq_true, if_false]
    omega
  · rw [show (2 ^ 63 * 1 + (2 ^ 52 * e + f)) / 9223372036854775808 % 2 = 1 by omega]
    simp only [beq_self_eq_true, if_true]
    omega
/-- the last digit that is set, of a number and of its opposite -/
theorem bits_low (o t : Nat) (ho : o % 2 = 1) (h : o * 2 ^ t < 18446744073709551616) : bits .and .u64 ((o * 2 ^ t : Nat) : Int) ((18446744073709551616 - o * 2 ^ t : Nat) : Int) = ((2 ^ t : Nat) : Int) ∧ bits .and .u64 ((18446744073709551616 - o * 2 ^ t : Nat) : Int) ((o * 2 ^ t : Nat) : Int) = ((2 ^ t : Nat) : Int) := by
  have p : 0 < o * 2 ^ t := Nat.mul_pos (by omega) (Nat.two_pow_pos t)
  have e := and_neg o t 64 ho (by omega)
  have q : (2 : Nat) ^ 64 = 18446744073709551616 := by decide
  rw [q] at e
  exact ⟨by rw [bits_and _ _ h (by omega), e], by rw [bits_and _ _ (by omega) h, Nat.and_comm, e]⟩
/-- the table of trailing zeros -/
def tz64 : List Int := [0, 1, 56, 2, 57, 49, 28, 3, 61, 58, 42, 50, 38, 29, 17, 4, 62, 47, 59, 36, 45, 43, 51, 22, 53, 39, 33, 30, 24, 18, 12, 5, 63, 55, 48, 27, 60, 41, 37, 16, 46, 35, 44, 21, 52, 32, 23, 11, 54, 26, 40, 15, 34, 20, 31, 10, 25, 14, 19, 9, 13, 8, 7, 6]
theorem tz_table : ∀ t : Nat, t < 64 → 2 ^ t * 285870213051353865 % 18446744073709551616 / 288230376151711744 < 64 ∧ tz64.getD (2 ^ t * 285870213051353865 % 18446744073709551616 / 288230376151711744) 0 = (t : Int) := by decide +kernel
/-- the number that a word is, in units of the least place -/
def sval (x : Nat) : Int := sg (sgn x) (mag (rung x))
/-- the place of a number on a grid of so many parts -/
def gridR (V den : Int) : Int := (2 * V * den + U) / (2 * U)
theorem U_int : (0 : Int) < (U : Int) := by have := U_pos; omega
theorem grid_alg (n den V u q : Int) (hu : 0 < u) (hq : 0 < q) (e : n * u = V * q) : (2 * V * den + u) / (2 * u) = (2 * (n * den) + q) / (2 * q) := by
  rw [← Int.mul_ediv_mul_of_pos_left (2 * V * den + u) (2 * u) hq, ← Int.mul_ediv_mul_of_pos_left (2 * (n * den) + q) (2 * q) hu]
  have a : (2 * V * den + u) * q = (2 * (n * den) + q) * u := by
    have : (2 * V * den + u) * q = 2 * den * (V * q) + u * q := by grind
    rw [this, ← e]; grind
  have b : 2 * u * q = 2 * q * u := by grind
  rw [a, b]
theorem gridR_half (n den V : Int) (h : Nat) (e : n * U = V * 2 ^ h) : gridR V den = (2 * (n * den) + 2 ^ h) / (2 * 2 ^ h) := by
  have p : (0 : Int) < 2 ^ h := Int.pow_pos (by decide)
  have u := U_int
  unfold gridR
  generalize (U : Int) = u' at *
  exact grid_alg n den V u' _ u p e
theorem gridR_mono (V W den : Int) (hd : 1 ≤ den) (h : V ≤ W) : gridR V den ≤ gridR W den := by
  have u := U_int
  unfold gridR
  refine Int.ediv_le_ediv (by omega) ?_
  have := Int.mul_le_mul_of_nonneg_right (show 2 * V ≤ 2 * W by omega) (show 0 ≤ den by omega)
  omega
theorem gridR_parts (V n den : Int) (hd : V * den = n * U) : gridR V den = n := by
  have u := U_int
  unfold gridR
  generalize (U : Int) = u' at *
  rw [Int.mul_assoc, hd, show 2 * (n * u') + u' = u' + n * (2 * u') by grind]
  rw [Int.add_mul_ediv_right _ _ (by omega), Int.ediv_eq_zero_of_lt (by omega) (by omega)]
  omega
theorem gridR_whole (n den : Int) : gridR (n * U) den = n * den := gridR_parts _ _ _ (by grind)
end Go.Proofs.Flo
