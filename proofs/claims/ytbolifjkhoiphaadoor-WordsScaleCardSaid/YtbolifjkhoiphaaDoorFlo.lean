/- The model's float64: how two words stand to each other, told by their bits. Program-free. -/
import GoSem.Core.Float
import Derived.Handy
namespace Go.Proofs.Flo
set_option linter.unusedVariables false
set_option linter.unusedSimpArgs false
open Ieee
/-- the magnitude of a rung, in units of the least place -/
def mag (r : Nat) : Nat := if r < 4503599627370496 then r else (4503599627370496 + r % 4503599627370496) * 2 ^ (r / 4503599627370496 - 1)
theorem mag_small {r : Nat} (h : r < 4503599627370496) : mag r = r := if_pos h
theorem mag_great {r : Nat} (h : 4503599627370496 ≤ r) : mag r = (4503599627370496 + r % 4503599627370496) * 2 ^ (r / 4503599627370496 - 1) := if_neg (by omega)
theorem pow_pos2 (k : Nat) : 1 ≤ 2 ^ k := Nat.one_le_two_pow
theorem mag_ge {r : Nat} (h : 4503599627370496 ≤ r) : 4503599627370496 * 2 ^ (r / 4503599627370496 - 1) ≤ mag r := by
  rw [mag_great h]
  exact Nat.mul_le_mul_right _ (by omega)
theorem mag_lt {r : Nat} (h : 4503599627370496 ≤ r) : mag r < 4503599627370496 * 2 ^ (r / 4503599627370496) := by
  rw [mag_great h]
  have e : r / 4503599627370496 = (r / 4503599627370496 - 1) + 1 := by omega
  rw [show 4503599627370496 * 2 ^ (r / 4503599627370496) = (2 * 4503599627370496) * 2 ^ (r / 4503599627370496 - 1) by
    conv => lhs; rw [e, Nat.pow_succ]
    rw [Nat.mul_comm (2 ^ _) 2, ← Nat.mul_assoc, Nat.mul_comm 4503599627370496 2]]
  exact Nat.mul_lt_mul_of_pos_right (by omega) (pow_pos2 _)
theorem mag_mono {r s : Nat} (h : r < s) : mag r < mag s := by
  by_cases a : r < 4503599627370496
  · rw [mag_small a]
    by_cases b : s < 4503599627370496
    · rw [mag_small b]; exact h
    · have g := mag_ge (show 4503599627370496 ≤ s by omega)
      have p := pow_pos2 (s / 4503599627370496 - 1)
      have : 4503599627370496 * 1 ≤ 4503599627370496 * 2 ^ (s / 4503599627370496 - 1) := Nat.mul_le_mul_left _ p
      omega
  · have ra : 4503599627370496 ≤ r := by omega
    have sa : 4503599627370496 ≤ s := by omega
    by_cases e : r / 4503599627370496 = s / 4503599627370496
    · rw [mag_great ra, mag_great sa, e]
      exact Nat.mul_lt_mul_of_pos_right (by omega) (pow_pos2 _)
    · have l := mag_lt ra
      have g := mag_ge sa
      have : 2 ^ (r / 4503599627370496) ≤ 2 ^ (s / 4503599627370496 - 1) := Nat.pow_le_pow_right (by decide) (by omega)
      have := Nat.mul_le_mul_left 4503599627370496 this
      omega
theorem mag_iff (r s : Nat) : (mag r < mag s ↔ r < s) ∧ (mag r = mag s ↔ r = s) := by
  have h := @mag_mono r s
  have k := @mag_mono s r
  refine ⟨⟨fun a => ?_, h⟩, ⟨fun a => ?_, fun e => by rw [e]⟩⟩
  · by_cases c : r < s
    · exact c
    · by_cases d : s < r
      · have := k d; omega
      · have : r = s := by omega
        rw [this] at a; omega
  · by_cases c : r < s
    · have := h c; omega
    · by_cases d : s < r
      · have := k d; omega
      · omega
theorem mag_zero : mag 0 = 0 := mag_small (by decide)
theorem mag_pos (r : Nat) : (0 < mag r ↔ 0 < r) := by
  have := (mag_iff 0 r).1
  rwa [mag_zero] at this
/-- a word's sign, its rung, whether it is a NaN, its place in the order of all numbers -/
def sgn (x : Nat) : Bool := x / 9223372036854775808 % 2 == 1
def rung (x : Nat) : Nat := x % 9223372036854775808
def nanB (x : Nat) : Bool := decide (9218868437227405312 < rung x)
def sg (s : Bool) (n : Nat) : Int := if s then -(n : Int) else n
def key (x : Nat) : Int := sg (sgn x) (rung x)
theorem weight : double.signWeight = 9223372036854775808 := by decide
theorem bin : double.binade = 4503599627370496 := by decide
theorem infr : double.infRung = 9218868437227405312 := by decide
theorem cmp_of {a b c d : Int} (h : a < b ↔ c < d) (k : a = b ↔ c = d) : compare a b = compare c d := by
  show compareOfLessAndEq a b = compareOfLessAndEq c d
  unfold compareOfLessAndEq
  by_cases x : a < b
  · rw [if_pos x, if_pos (h.1 x)]
  · rw [if_neg x, if_neg (fun y => x (h.2 y))]
    by_cases z : a = b
    · rw [if_pos z, if_pos (k.1 z)]
    · rw [if_neg z, if_neg (fun y => z (k.2 y))]
theorem cmp_scale (a b : Int) (p : Nat) (hp : 1 ≤ p) : compare (a * p) (b * p) = compare a b := by
  have p0 : (0 : Int) < p := by omega
  refine cmp_of ⟨fun h => Int.lt_of_mul_lt_mul_right h (by omega), fun h => Int.mul_lt_mul_of_pos_right h p0⟩ ⟨fun h => Int.eq_of_mul_eq_mul_right (by omega) h, fun h => by rw [h]⟩
theorem cmp_lt {a b : Int} (h : a < b) : compare a b = .lt := by
  show compareOfLessAndEq a b = _
  unfold compareOfLessAndEq
  rw [if_pos h]
theorem cmp_gt {a b : Int} (h : b < a) : compare a b = .gt := by
  show compareOfLessAndEq a b = _
  unfold compareOfLessAndEq
  rw [if_neg (by omega), if_neg (by omega)]
theorem read_num (x : Nat) (h : rung x < 9218868437227405312) : ∃ m k : Nat, double.read x = .number (sgn x) m (double.leastPlace + k) ∧ m * 2 ^ k = mag (rung x) := by
  unfold rung at h ⊢
  unfold Format.read
  rw [weight, bin, infr]
  simp only
  by_cases a : x % 9223372036854775808 < 4503599627370496
  · exact ⟨x % 9223372036854775808, 0, by rw [if_pos a]; simp [sgn], by rw [mag_small a]; simp⟩
  · refine ⟨_, x % 9223372036854775808 / 4503599627370496 - 1, by rw [if_neg a, if_pos h]; rfl, ?_⟩
    rw [mag_great (by omega)]
theorem read_inf (x : Nat) (h : rung x = 9218868437227405312) : double.read x = .infinity (sgn x) := by
  unfold rung at h
  unfold Format.read
  rw [weight, bin, infr]
  simp only
  rw [h, if_neg (by decide), if_neg (by decide), if_pos rfl]
  rfl
theorem read_nan (x : Nat) (h : 9218868437227405312 < rung x) : ∃ f, double.read x = .nan (sgn x) f := by
  unfold rung at h
  unfold Format.read
  rw [weight, bin, infr]
  simp only
  rw [if_neg (by omega), if_neg (by omega), if_neg (by omega)]
  exact ⟨_, rfl⟩
theorem signed_sg (s : Bool) (m a : Nat) : signed s m a = sg s (m * 2 ^ a) := by
  unfold signed sg
  rw [Nat.shiftLeft_eq]
theorem sg_mul (s : Bool) (n p : Nat) : sg s n * p = sg s (n * p) := by
  cases s <;> simp [sg, Int.neg_mul]
theorem order_num (s t : Bool) (m n k l : Nat) : Datum.order (.number s m (double.leastPlace + k)) (.number t n (double.leastPlace + l)) = some (compare (sg s (m * 2 ^ k)) (sg t (n * 2 ^ l))) := by
  have e1 : min (double.leastPlace + (k : Int)) (double.leastPlace + (l : Int)) = double.leastPlace + ((min k l : Nat) : Int) := by omega
  simp only [Datum.order]
  rw [e1, show (double.leastPlace + (k : Int) - (double.leastPlace + ((min k l : Nat) : Int))).toNat = k - min k l by omega, show (double.leastPlace + (l : Int) - (double.leastPlace + ((min k l : Nat) : Int))).toNat = l - min k l by omega]
  rw [signed_sg, signed_sg, ← cmp_scale _ _ (2 ^ min k l) (pow_pos2 _), sg_mul, sg_mul, Nat.mul_assoc, Nat.mul_assoc, ← Nat.pow_add, ← Nat.pow_add, show k - min k l + min k l = k by omega, show l - min k l + min k l = l by omega]
theorem cmp_mag (s t : Bool) (a b : Nat) : compare (sg s (mag a)) (sg t (mag b)) = compare (sg s a) (sg t b) := by
  have h := mag_iff a b
  have h' := mag_iff b a
  have p := mag_pos a
  have q := mag_pos b
  cases s <;> cases t <;> (refine cmp_of ?_ ?_ <;> simp only [sg, if_true, Bool.false_eq_true, if_false] <;> omega)
/-- how two words stand to each other -/
theorem order_key (x y : Nat) (hx : nanB x = false) (hy : nanB y = false) : double.order x y = some (compare (key x) (key y)) := by
  have ix : rung x ≤ 9218868437227405312 := by have := of_decide_eq_false hx; omega
  have iy : rung y ≤ 9218868437227405312 := by have := of_decide_eq_false hy; omega
  unfold Format.order key
  by_cases a : rung x = 9218868437227405312
  · rw [read_inf x a]
    by_cases b : rung y = 9218868437227405312
    · rw [read_inf y b, a, b]
      cases sgn x <;> cases sgn y <;> decide
    · obtain ⟨n, l, e, _⟩ := read_num y (by omega)
      rw [e, a]
      simp only [Datum.order]
      cases sgn x <;> cases sgn y <;> simp only [sg, if_true, Bool.false_eq_true, if_false] <;> first | exact (congrArg some (cmp_lt (by omega))).symm | exact (congrArg some (cmp_gt (by omega))).symm
  · obtain ⟨m, k, e, hm⟩ := read_num x (by omega)
    by_cases b : rung y = 9218868437227405312
    · rw [e, read_inf y b, b]
      simp only [Datum.order]
      cases sgn x <;> cases sgn y <;> simp only [sg, if_true, Bool.false_eq_true, if_false] <;> first | exact (congrArg some (cmp_lt (by omega))).symm | exact (congrArg some (cmp_gt (by omega))).symm
    · obtain ⟨n, l, e', hn⟩ := read_num y (by omega)
      rw [e, e', order_num, hm, hn, cmp_mag]
theorem order_nan (x y : Nat) (h : nanB x = true ∨ nanB y = true) : double.order x y = none := by
  unfold Format.order
  rcases h with h | h
  · obtain ⟨f, e⟩ := read_nan x (of_decide_eq_true h)
    rw [e]
    cases double.read y <;> rfl
  · obtain ⟨f, e⟩ := read_nan y (of_decide_eq_true h)
    rw [e]
    cases double.read x <;> rfl
end Go.Proofs.Flo
