/- The model's float64: rounding to the nearest word, even where two are as near. Program-free. -/
import Derived.Test.YtbolifjkhoiphaaDoorFlow
namespace Go.Proofs.Flo
set_option linter.unusedVariables false
set_option linter.unusedSimpArgs false
open Ieee
theorem cut_even (s : Bool) (m d : Nat) (hd : d ≤ m.log2 + 2) : Toward.even.cut s m d = m / 2 ^ d + (if 2 ^ d < 2 * (m % 2 ^ d) ∨ (2 ^ d = 2 * (m % 2 ^ d) ∧ m / 2 ^ d % 2 = 1) then 1 else 0) := by
  unfold Toward.cut
  simp only [Nat.min_eq_left hd, Nat.shiftLeft_eq, Nat.one_mul]
  congr 1
  by_cases a : 2 ^ d < 2 * (m % 2 ^ d)
  · simp [a]
  · by_cases b : 2 ^ d = 2 * (m % 2 ^ d)
    · by_cases c : m / 2 ^ d % 2 = 1
      · rw [if_pos (.inr ⟨b, c⟩), decide_eq_false a, show (2 ^ d == 2 * (m % 2 ^ d)) = true by simpa using b, show (m / 2 ^ d % 2 == 1) = true by simpa using c]
        rfl
      · rw [if_neg (by omega), decide_eq_false a, show (m / 2 ^ d % 2 == 1) = false by simpa using c]
        simp
    · rw [if_neg (by omega), decide_eq_false a, show (2 ^ d == 2 * (m % 2 ^ d)) = false by simpa using b]
      rfl
/-- what is kept, against the midpoints beside it; K is half of a unit of what is kept -/
theorem cut_facts (s : Bool) (m d K : Nat) (hd : d ≤ m.log2 + 2) (hK : 2 ^ d = 2 * K) : ∃ c, Toward.even.cut s m d = c ∧ (2 * c * K ≤ m + K ∧ (2 * c * K = m + K → c % 2 = 0)) ∧ (m ≤ 2 * c * K + K ∧ (m = 2 * c * K + K → c % 2 = 0)) ∧ m / 2 ^ d ≤ c ∧ c ≤ m / 2 ^ d + 1 ∧ (c = m / 2 ^ d → 2 * c * K ≤ m) ∧ (c = m / 2 ^ d + 1 → m ≤ 2 * c * K) := by
  refine ⟨_, cut_even s m d hd, ?_⟩
  rw [hK]
  have kp : 0 < K := by have := Nat.two_pow_pos d; omega
  obtain ⟨q, hq⟩ : ∃ q, m / (2 * K) = q := ⟨_, rfl⟩
  obtain ⟨r, hr⟩ : ∃ r, m % (2 * K) = r := ⟨_, rfl⟩
  have e : m = 2 * q * K + r := by
    have := Nat.div_add_mod m (2 * K)
    rw [hq, hr] at this
    rw [← this]; grind
  have rl : r < 2 * K := by rw [← hr]; exact Nat.mod_lt _ (by omega)
  rw [hq, hr]
  have s1 : 2 * (q + 1) * K = 2 * q * K + 2 * K := by grind
  have s0 : 2 * (q + 0) * K = 2 * q * K := by grind
  obtain ⟨Q, hQ⟩ : ∃ Q, 2 * q * K = Q := ⟨_, rfl⟩
  rw [hQ] at s1 s0 e
  by_cases x : 2 * K < 2 * r ∨ (2 * K = 2 * r ∧ q % 2 = 1)
  · rw [if_pos x, s1]
    refine ⟨⟨by omega, fun h => by omega⟩, ⟨by omega, fun h => by omega⟩, by omega, by omega, fun h => by omega, fun h => by omega⟩
  · rw [if_neg x, s0]
    refine ⟨⟨by omega, fun h => by omega⟩, ⟨by omega, fun h => by omega⟩, by omega, by omega, fun h => by omega, fun h => by omega⟩
theorem or_one (q : Nat) : q ||| 1 = 2 * (q / 2) + 1 := by
  refine Nat.eq_of_testBit_eq fun i => ?_
  rw [Nat.testBit_or]
  cases i with
  | zero => simp [Nat.testBit_zero]
  | succ i =>
    rw [Nat.testBit_add_one, Nat.testBit_add_one, Nat.testBit_add_one, show (2 * (q / 2) + 1) / 2 = q / 2 by omega]
    simp
/-- the quotient with a last digit that tells whether anything is left over -/
def sticky (A B : Nat) : Nat := if A % B = 0 then A / B else A / B ||| 1
/-- it stands to even numbers as the fraction does -/
theorem sticky_cmp (A B M : Nat) (hB : 0 < B) (hM : M % 2 = 0) : (M ≤ sticky A B → M * B ≤ A) ∧ (sticky A B ≤ M → A ≤ M * B) ∧ (M * B = A → M = sticky A B) := by
  have e := Nat.div_add_mod A B
  have l := Nat.mod_lt A hB
  unfold sticky
  rw [or_one]
  obtain ⟨q, hq⟩ : ∃ q, A / B = q := ⟨_, rfl⟩
  rw [hq] at e ⊢
  by_cases z : A % B = 0
  · rw [if_pos z]
    rw [z, Nat.add_zero] at e
    rw [← e]
    refine ⟨fun h => by rw [Nat.mul_comm]; exact Nat.mul_le_mul_left _ h, fun h => by rw [Nat.mul_comm]; exact Nat.mul_le_mul_right _ h, fun h => ?_⟩
    rw [Nat.mul_comm] at h
    exact Nat.eq_of_mul_eq_mul_left hB h
  · rw [if_neg z]
    refine ⟨fun h => ?_, fun h => ?_, fun h => ?_⟩
    · have := Nat.mul_le_mul_left B (show M ≤ q by omega)
      rw [Nat.mul_comm]; omega
    · have := Nat.mul_le_mul_left B (show q + 1 ≤ M by omega)
      rw [Nat.mul_add, Nat.mul_one] at this
      rw [Nat.mul_comm]; omega
    · rw [← h, Nat.mul_mod_left] at z
      exact absurd rfl z
/-- no rung is nearer to a number: it lies between the midpoints beside the rung, and on one only if the rung is even -/
structure NearB (g N D : Nat) : Prop where
  lo : (mag (g - 1) + mag g) * D ≤ 2 * N * U
  lo' : (mag (g - 1) + mag g) * D = 2 * N * U → g % 2 = 0
  hi : 2 * N * U ≤ (mag g + mag (g + 1)) * D
  hi' : 2 * N * U = (mag g + mag (g + 1)) * D → g % 2 = 0
theorem mag_norm2 (c j : Nat) (h1 : 4503599627370496 ≤ c) (h2 : c ≤ 9007199254740992) : mag (j * 4503599627370496 + c) = c * 2 ^ j := by
  by_cases x : c = 9007199254740992
  · subst x
    rw [show j * 4503599627370496 + 9007199254740992 = (j + 1) * 4503599627370496 + 4503599627370496 by omega, mag_norm _ _ (by decide) (by decide), Nat.pow_succ]
    omega
  · exact mag_norm c j h1 (by omega)
/-- a fraction of two great numbers, rounded -/
theorem near_of (N D A B P R j d K : Nat) (s : Bool) (hD : 0 < D) (hB : B = D * R) (hP : 0 < P) (hR : 0 < R) (hA : A = N * P) (hj : 2 ^ j * P = 2 ^ d * U * R) (j1 : 1 ≤ j) (hd : 2 ≤ d) (hK : 2 ^ d = 2 * K)
    (q0 : 2 ^ (52 + d) ≤ sticky A B) (q1 : sticky A B < 2 ^ (53 + d)) : ∃ c, Toward.even.cut s (sticky A B) d = c ∧ 4503599627370496 ≤ c ∧ c ≤ 9007199254740992 ∧ NearB (j * 4503599627370496 + c) N D := by
  have lg : (sticky A B).log2 = 52 + d := log2_of q0 (by rw [show 52 + d + 1 = 53 + d by omega]; exact q1)
  obtain ⟨c, hc, ⟨a1, a2⟩, ⟨b1, b2⟩, c1, c2, c3, c4⟩ := cut_facts s (sticky A B) d K (by omega) hK
  have K2 : K % 2 = 0 := by
    have : 2 ^ d = 2 ^ (d - 2) * 4 := by
      rw [show (4 : Nat) = 2 ^ 2 by decide, ← Nat.pow_add]; congr 1; omega
    omega
  have pd := Nat.two_pow_pos d
  have l0 : 4503599627370496 ≤ sticky A B / 2 ^ d := (Nat.le_div_iff_mul_le pd).2 (by rw [Nat.pow_add] at q0; exact q0)
  have l1 : sticky A B / 2 ^ d < 9007199254740992 := Nat.div_lt_of_lt_mul (by rw [Nat.add_comm, Nat.pow_add] at q1; exact q1)
  refine ⟨c, hc, by omega, by omega, ?_⟩
  have cK : ∀ x, x * K % 2 = 0 := fun x => by rw [Nat.mul_mod, K2]; simp
  have pB : 0 < B := by rw [hB]; exact Nat.mul_pos hD hR
  have S := fun x => sticky_cmp A B (x * K) pB (cK x)
  have g0 : mag (j * 4503599627370496 + c) = c * 2 ^ j := mag_norm2 c j (by omega) (by omega)
  -- a multiple of half a unit against the number
  have T : ∀ x, x * 2 ^ j * D * P = 2 * U * (x * K * B) := fun x => by
    have : x * 2 ^ j * D * P = x * D * (2 ^ j * P) := by grind
    rw [this, hj, hK, hB]; grind
  have V : 2 * N * U * P = 2 * U * A := by rw [hA]; grind
  have up := U_pos
  have up2 : 0 < 2 * U := by omega
  have L : ∀ x, (x * K ≤ sticky A B → x * 2 ^ j * D ≤ 2 * N * U) ∧ (sticky A B ≤ x * K → 2 * N * U ≤ x * 2 ^ j * D) ∧ (x * 2 ^ j * D = 2 * N * U → x * K = sticky A B) := fun x => by
    refine ⟨fun h => ?_, fun h => ?_, fun h => ?_⟩
    · refine Nat.le_of_mul_le_mul_right ?_ hP
      rw [T, V]; exact Nat.mul_le_mul_left _ ((S x).1 h)
    · refine Nat.le_of_mul_le_mul_right ?_ hP
      rw [T, V]; exact Nat.mul_le_mul_left _ ((S x).2.1 h)
    · refine (S x).2.2 ?_
      have : x * 2 ^ j * D * P = 2 * N * U * P := by rw [h]
      rw [T, V] at this
      exact Nat.eq_of_mul_eq_mul_left up2 this
  have m1 : (2 * c - 1) * K = 2 * c * K - K := by rw [Nat.sub_mul, Nat.one_mul]
  have m2 : (2 * c + 1) * K = 2 * c * K + K := by rw [Nat.add_mul, Nat.one_mul]
  have kc : K ≤ 2 * c * K := by
    have := Nat.mul_le_mul_right K (show 1 ≤ 2 * c by omega)
    rwa [Nat.one_mul] at this
  have par : c % 2 = 0 → (j * 4503599627370496 + c) % 2 = 0 := fun h => by omega
  have LO : (mag (j * 4503599627370496 + c - 1) + mag (j * 4503599627370496 + c)) * D ≤ 2 * N * U ∧ ((mag (j * 4503599627370496 + c - 1) + mag (j * 4503599627370496 + c)) * D = 2 * N * U → (j * 4503599627370496 + c) % 2 = 0) := by
    by_cases x : c = 4503599627370496
    · -- the first rung of a binade: nothing was cut off upwards
      have cq : c = sticky A B / 2 ^ d := by omega
      have h := c3 cq
      have h' := (L (2 * c)).1 h
      have gm : mag (j * 4503599627370496 + c - 1) < mag (j * 4503599627370496 + c) := mag_mono (by omega)
      rw [g0] at gm ⊢
      have e2 : 2 * c * 2 ^ j = c * 2 ^ j + c * 2 ^ j := by grind
      have lt : (mag (j * 4503599627370496 + c - 1) + c * 2 ^ j) * D < 2 * c * 2 ^ j * D := Nat.mul_lt_mul_of_pos_right (by omega) hD
      exact ⟨by omega, fun h => by omega⟩
    · have gm : mag (j * 4503599627370496 + c - 1) = (c - 1) * 2 ^ j := by
        rw [show j * 4503599627370496 + c - 1 = j * 4503599627370496 + (c - 1) by omega]
        exact mag_norm2 (c - 1) j (by omega) (by omega)
      have e2 : (c - 1) * 2 ^ j + c * 2 ^ j = (2 * c - 1) * 2 ^ j := by
        rw [← Nat.add_mul]; congr 1; omega
      rw [gm, g0, e2]
      refine ⟨(L _).1 (by rw [m1]; omega), fun h => par (a2 ?_)⟩
      have := (L _).2.2 h
      rw [m1] at this
      omega
  have HI : 2 * N * U ≤ (mag (j * 4503599627370496 + c) + mag (j * 4503599627370496 + c + 1)) * D ∧ (2 * N * U = (mag (j * 4503599627370496 + c) + mag (j * 4503599627370496 + c + 1)) * D → (j * 4503599627370496 + c) % 2 = 0) := by
    by_cases x : c = 9007199254740992
    · exact ⟨by
        have h := c4 (by omega)
        have h' := (L (2 * c)).2.1 h
        have gm : mag (j * 4503599627370496 + c) < mag (j * 4503599627370496 + c + 1) := mag_mono (by omega)
        rw [g0] at gm ⊢
        have e2 : 2 * c * 2 ^ j = c * 2 ^ j + c * 2 ^ j := by grind
        have := Nat.mul_le_mul_right D (show 2 * c * 2 ^ j ≤ c * 2 ^ j + mag (j * 4503599627370496 + c + 1) by omega)
        omega, fun _ => by omega⟩
    · have gm : mag (j * 4503599627370496 + c + 1) = (c + 1) * 2 ^ j := by
        rw [show j * 4503599627370496 + c + 1 = j * 4503599627370496 + (c + 1) by omega]
        exact mag_norm2 (c + 1) j (by omega) (by omega)
      have e2 : c * 2 ^ j + (c + 1) * 2 ^ j = (2 * c + 1) * 2 ^ j := by
        rw [← Nat.add_mul]; congr 1; omega
      rw [gm, g0, e2]
      refine ⟨(L _).2.1 (by rw [m2]; omega), fun h => par (b2 ?_)⟩
      have := (L _).2.2 h.symm
      rw [m2] at this
      omega
  exact ⟨LO.1, LO.2, HI.1, HI.2⟩
/-- a number that a rung is, has no other rung near -/
theorem near_exact (g g0 N D : Nat) (hD : 0 < D) (h : NearB g N D) (e : N * U = mag g0 * D) : g = g0 := by
  have a := h.lo
  have b := h.hi
  by_cases x : g < g0
  · have m0 := mag_mono x
    have m1 : mag (g + 1) ≤ mag g0 := by
      by_cases y : g + 1 = g0
      · rw [y]; exact Nat.le_refl _
      · exact Nat.le_of_lt (mag_mono (by omega))
    have := Nat.mul_lt_mul_of_pos_right (show mag g + mag (g + 1) < 2 * mag g0 by omega) hD
    rw [Nat.mul_assoc] at b
    rw [e, ← Nat.mul_assoc] at b
    omega
  · by_cases y : g0 < g
    · have m0 := mag_mono y
      have m1 : mag g0 ≤ mag (g - 1) := by
        by_cases z : g0 = g - 1
        · rw [z]; exact Nat.le_refl _
        · exact Nat.le_of_lt (mag_mono (by omega))
      have := Nat.mul_lt_mul_of_pos_right (show 2 * mag g0 < mag (g - 1) + mag g by omega) hD
      rw [Nat.mul_assoc] at a
      rw [e, ← Nat.mul_assoc] at a
      omega
    · omega
theorem sval_word (s : Bool) (t : Nat) (h : t < 9223372036854775808) : sval (double.word s t) = sg s (mag t) := by
  unfold sval
  rw [(word_rung s t h).1, (word_rung s t h).2.1]
/-- an integer of so many digits, as a word -/
theorem of_int (n : Int) (h : n.natAbs < 9007199254740992) : ∃ x, double.write (.number (n < 0) n.natAbs 0) = x ∧ x < 18446744073709551616 ∧ rung x < 9218868437227405312 ∧ sval x = n * U ∧ (n = 0 → x = 0) ∧ (n ≠ 0 → 0 < rung x) ∧ sgn x = decide (n < 0) := by
  show ∃ x, double.nearest _ _ _ = x ∧ _
  by_cases z : n = 0
  · subst z
    refine ⟨0, ?_, by decide, by decide, ?_, fun _ => rfl, fun h => absurd rfl h, by decide⟩
    · unfold Format.nearest
      rw [show Int.natAbs 0 = 0 from rfl, if_pos rfl]
      rfl
    · rw [show sval 0 = 0 by decide, Int.zero_mul]
  · obtain ⟨a, ha⟩ : ∃ a, a = 1074 := ⟨_, rfl⟩
    obtain ⟨t, e, ht⟩ := rung_of n.natAbs a h (by omega)
    rw [← U_pow ha] at e
    clear ha
    have t0 : 0 < t := (mag_pos t).1 (by rw [e]; exact Nat.mul_pos (by omega) U_pos)
    obtain ⟨w1, w2, w3⟩ := word_rung (decide (n < 0)) t (by omega)
    refine ⟨_, nearest_whole _ t _ t0 ht e.symm, w3, by rw [w1]; exact ht, ?_, fun h => absurd h z, fun _ => by rw [w1]; exact t0, w2⟩
    rw [sval_word _ _ (by omega), e]
    unfold sg
    by_cases c : n < 0
    · rw [decide_eq_true c, if_pos rfl]
      obtain ⟨k, rfl⟩ : ∃ k : Nat, n = -(k : Int) := ⟨n.natAbs, by omega⟩
      rw [Int.natAbs_neg, Int.natAbs_natCast, Int.natCast_mul, Int.neg_mul]
    · rw [decide_eq_false c]
      obtain ⟨k, rfl⟩ : ∃ k : Nat, n = (k : Int) := ⟨n.natAbs, by omega⟩
      rw [Int.natAbs_natCast, Int.natCast_mul]
      rfl
theorem read_num2 (x : Nat) (h : rung x < 9218868437227405312) : ∃ m k : Nat, double.read x = .number (sgn x) m (double.leastPlace + k) ∧ m * 2 ^ k = mag (rung x) ∧ m < 9007199254740992 := by
  unfold rung at h ⊢
  unfold Format.read
  rw [weight, bin, infr]
  simp only
  by_cases a : x % 9223372036854775808 < 4503599627370496
  · exact ⟨x % 9223372036854775808, 0, by rw [if_pos a]; simp [sgn], by rw [mag_small a]; simp, by omega⟩
  · refine ⟨_, x % 9223372036854775808 / 4503599627370496 - 1, by rw [if_neg a, if_pos h]; rfl, ?_, by omega⟩
    rw [mag_great (by omega)]
theorem read_64 : double.read 4634204016564240384 = .number false 4503599627370496 (-46) := by decide +kernel
/-- a word by sixty-four, if a word can hold it -/
theorem div_64 (x r : Nat) (hx : rung x < 9218868437227405312) (h0 : 0 < r) (h1 : r < 9218868437227405312) (e : mag (rung x) = mag r * 64) : double.div x 4634204016564240384 = some (double.word (sgn x) r) := by
  obtain ⟨m, k, e1, hm, mb⟩ := read_num2 x hx
  have m0 : m ≠ 0 := by
    intro z
    subst z
    have := (mag_pos r).2 h0
    omega
  have lg : m.log2 ≤ 52 := by
    have := (log2_range m0).1
    by_cases c : m.log2 ≤ 52
    · exact c
    · have : 2 ^ 53 ≤ 2 ^ m.log2 := Nat.pow_le_pow_right (by decide) (by omega)
      omega
  unfold Format.div
  rw [e1, read_64]
  simp only [Datum.quotient, Option.map_some, Format.write, show (4503599627370496 : Nat) ≠ 0 from by decide, if_false]
  rw [show (4503599627370496 : Nat).log2 = 52 by decide +kernel, fb]
  obtain ⟨q, hq⟩ : ∃ q, 52 + 2 + 52 - m.log2 = 52 + q := ⟨54 - m.log2, by omega⟩
  rw [hq, Nat.shiftLeft_eq, Nat.pow_add, show (2 : Nat) ^ 52 = 4503599627370496 by decide, show m * (4503599627370496 * 2 ^ q) = (m * 2 ^ q) * 4503599627370496 by grind, Nat.mul_div_cancel _ (by decide), Nat.mul_mod_left]
  simp only [Bool.bne_false, bne_self_eq_false, Bool.toNat_false, Nat.add_zero, Bool.xor_false]
  rw [lp, nearest_exact _ r _ (k + 46) (52 + q + 1) h0 h1 _ (by omega) (by
    have : mag r * 64 = m * 2 ^ k := by rw [hm, e]
    rw [Nat.pow_add, Nat.pow_add, Nat.pow_add, show (2 : Nat) ^ 46 = 64 * 1099511627776 by decide, show (2 : Nat) ^ 52 = 4096 * 1099511627776 by decide]
    have : mag r * (4096 * 1099511627776 * 2 ^ q * 2 ^ 1) = mag r * 64 * (128 * 1099511627776 * 2 ^ q) := by grind
    rw [this, ‹mag r * 64 = m * 2 ^ k›]; grind)]
/-- an integer by sixty-four, as a word -/
theorem of_int64 (n : Int) (h : n.natAbs < 9007199254740992) : ∃ x y, double.write (.number (n < 0) n.natAbs 0) = x ∧ double.div x 4634204016564240384 = some y ∧ y < 18446744073709551616 ∧ rung y < 9218868437227405312 ∧ sval y * 64 = n * U := by
  obtain ⟨x, e, xb, xr, xv, x0, x1, xs⟩ := of_int n h
  by_cases z : n = 0
  · refine ⟨x, 0, e, ?_, by decide, by decide, by rw [z, show sval 0 = 0 by decide]; simp⟩
    rw [x0 z]
    decide +kernel
  · obtain ⟨a, ha⟩ : ∃ a, a = 1074 := ⟨_, rfl⟩
    obtain ⟨t, et, ht⟩ := rung_of n.natAbs (a - 6) h (by omega)
    have t0 : 0 < t := (mag_pos t).1 (by rw [et]; exact Nat.mul_pos (by omega) (Nat.two_pow_pos _))
    have e64 : mag t * 64 = n.natAbs * U := by
      rw [et, U_pow ha, Nat.mul_assoc]
      congr 1
      rw [show (64 : Nat) = 2 ^ 6 by decide, ← Nat.pow_add]
      congr 1
      omega
    have mx : mag (rung x) = n.natAbs * U := by
      have : (sval x).natAbs = n.natAbs * U := by rw [xv, Int.natAbs_mul, Int.natAbs_natCast]
      rw [← this]
      unfold sval sg
      cases sgn x
      · simp only [Bool.false_eq_true, if_false, Int.natAbs_natCast]
      · simp only [if_true, Int.natAbs_neg, Int.natAbs_natCast]
    obtain ⟨w1, w2, w3⟩ := word_rung (sgn x) t (by omega)
    refine ⟨x, _, e, div_64 x t xr t0 ht (by rw [mx, e64]), w3, by rw [w1]; exact ht, ?_⟩
    rw [sval_word _ _ (by omega)]
    have s2 : sval x = sg (sgn x) (mag t) * 64 := by
      unfold sval
      rw [mx, ← e64]
      unfold sg
      cases sgn x
      · simp only [Bool.false_eq_true, if_false, Int.natCast_mul]; rfl
      · simp only [if_true, Int.natCast_mul, Int.neg_mul]; rfl
    rw [← s2, xv]
theorem mag_one : mag 4607182418800017408 = U := by
  have := mag_norm 4503599627370496 1022 (by decide) (by decide)
  rw [show 1022 * 4503599627370496 + 4503599627370496 = 4607182418800017408 by decide] at this
  obtain ⟨b, hb⟩ : ∃ b, b = 1022 := ⟨_, rfl⟩
  rw [← hb] at this
  rw [this, U_pow (show b + 52 = 1074 by omega), Nat.pow_add, Nat.mul_comm]
/-- once a word is the word -/
theorem mul_one (x : Nat) (hb : x < 18446744073709551616) (h0 : 0 < rung x) (h : rung x < 9218868437227405312) : double.mul 4607182418800017408 x = some x := by
  rw [mul_exact 4607182418800017408 x (rung x) (by decide) h h0 h (by rw [show rung 4607182418800017408 = 4607182418800017408 by decide, mag_one, Nat.mul_comm]), show sgn 4607182418800017408 = false by decide, Bool.false_xor]
  congr 1
  unfold Format.word
  rw [weight]
  unfold sgn rung
  by_cases c : x < 9223372036854775808
  · rw [show x / 9223372036854775808 % 2 = 0 by omega]
    simp only [Nat.reduceBEq, Bool.false_eq_true, if_false]
    omega
  · rw [show x / 9223372036854775808 % 2 = 1 by omega]
    simp only [beq_self_eq_true, if_true]
    omega
/-- a fraction's word, by 2^53 -/
theorem mul_53 (c : Nat) (h1 : 4503599627370496 ≤ c) (h2 : c < 9007199254740992) : mag (1021 * 4503599627370496 + c) * mag 4845873199050653696 = mag (1074 * 4503599627370496 + c) * U ∧ mag (1074 * 4503599627370496 + c) = c * U := by
  obtain ⟨a, ha⟩ : ∃ a, a = 1074 := ⟨_, rfl⟩
  obtain ⟨b, hb⟩ : ∃ a, a = 1021 := ⟨_, rfl⟩
  obtain ⟨d, hd⟩ : ∃ a, a = 1075 := ⟨_, rfl⟩
  have e : 4845873199050653696 = d * 4503599627370496 + 4503599627370496 := by omega
  rw [← ha, ← hb, e, mag_norm c b h1 h2, mag_norm _ d (by decide) (by decide), mag_norm c a h1 h2, U_pow ha]
  refine ⟨?_, rfl⟩
  rw [show (4503599627370496 : Nat) = 2 ^ 52 by decide, Nat.mul_mul_mul_comm, Nat.mul_assoc c, Nat.mul_assoc c, ← Nat.pow_add, ← Nat.pow_add, ← Nat.pow_add]
  congr 2
  omega
end Go.Proofs.Flo
