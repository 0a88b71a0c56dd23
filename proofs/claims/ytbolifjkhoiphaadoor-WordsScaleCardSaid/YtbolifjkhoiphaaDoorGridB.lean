/- Package real: Grid, for any float, parts and limits. -/
import Derived.Test.YtbolifjkhoiphaaDoorSpk3b
import Derived.WalkKit
import Derived.WalkSpells
import Derived.WalkLawsBesides
import Derived.Handy
import Derived.Lib.Hide
import Derived.Outline
namespace Go.Proofs.YtbolifjkhoiphaaDoor
open Go.RowKit Go.Proofs.Flo Go.Proofs.Reg
set_option linter.unusedVariables false
set_option linter.unusedSimpArgs false
set_option maxRecDepth 100000
/-- the place on the grid, out of halves, is that out of the number -/
theorem grid_of_half (n den V : Int) (h : Nat) (e : n * U = V * 2 ^ h) : gridOf n den h = gridR V den := by
  rw [gridR_half n den V h e]
  unfold gridOf
  by_cases z : h = 0
  · subst z
    rw [if_pos rfl, Int.pow_zero]
    omega
  · rw [if_neg z]
    obtain ⟨k, rfl⟩ : ∃ k, h = k + 1 := ⟨h - 1, by omega⟩
    have p : (0 : Int) < 2 ^ k := Int.pow_pos (by decide)
    rw [Nat.add_sub_cancel, Int.pow_succ]
    generalize n * den = A
    generalize (2 : Int) ^ k = q at *
    rw [show A / q + 1 = (A + 1 * q) / q by rw [Int.add_mul_ediv_right _ _ (by omega)], Int.ediv_ediv_of_nonneg (by omega)]
    rw [← Int.mul_ediv_mul_of_pos_left (A + 1 * q) (q * 2) (show (0 : Int) < 2 by decide)]
    congr 1
    · omega
    · omega
theorem key_in (x : Nat) (h : rung x < 9218868437227405312) : (key x < key 4890909195324358656 ↔ sval x < 9223372036854775808 * U) ∧ (key 14114281232179134464 ≤ key x ↔ -(9223372036854775808 * (U : Int)) ≤ sval x) := by
  obtain ⟨b, hb⟩ : ∃ a, a = 1085 := ⟨_, rfl⟩
  have m := mag_norm 4503599627370496 b (by decide) (by decide)
  rw [show b * 4503599627370496 + 4503599627370496 = 4890909195324358656 by omega] at m
  have mu : mag 4890909195324358656 = 9223372036854775808 * U := by
    rw [m, U_pow (show b - 11 = 1074 by omega), show b = (b - 11) + 11 by omega, Nat.pow_add, show (b - 11) + 11 - 11 = b - 11 by omega, show (2 : Nat) ^ 11 = 2048 by decide]
    generalize 2 ^ (b - 11) = q
    omega
  have g := mag_iff (rung x) 4890909195324358656
  have g' := mag_iff 4890909195324358656 (rung x)
  rw [mu] at g g'
  rw [show key 4890909195324358656 = 4890909195324358656 by decide, show key 14114281232179134464 = -4890909195324358656 by decide]
  unfold key sval sg
  have up := U_int
  cases sgn x
  · simp only [Bool.false_eq_true, if_false]
    constructor
    · constructor
      · intro c; have := g.1.2 (by omega); omega
      · intro c; have := g.1.1 (by omega); omega
    · constructor
      · intro c; omega
      · intro c; omega
  · simp only [if_true]
    constructor
    · constructor
      · intro c; omega
      · intro c; omega
    · constructor
      · intro c
        by_cases d : 4890909195324358656 < rung x
        · omega
        · by_cases e : rung x = 4890909195324358656
          · have := g.2.2 e; omega
          · have := g.1.2 (by omega); omega
      · intro c
        by_cases d : 4890909195324358656 < rung x
        · have := g'.1.2 d; omega
        · omega
/-- what Grid answers -/
def gridN (x : Nat) (den lo hi : Int) : Int := if den < 1 ∨ 1048576 < den ∨ hi < lo then 0 else if nanB x then 0 else if infB x then (if sgn x then lo else hi) else lmt (gridR (sval x) den) lo hi
def gridE (x : Nat) (den lo hi : Int) : Int := if den < 1 ∨ 1048576 < den ∨ hi < lo then 1 else if nanB x then 4 else 0
theorem lmt_hi {V lo hi : Int} (h : hi ≤ V) (l : lo ≤ hi) : lmt V lo hi = hi := by unfold lmt; split <;> (try split) <;> omega
theorem lmt_lo {V lo hi : Int} (h : V ≤ lo) (l : lo ≤ hi) : lmt V lo hi = lo := by unfold lmt; split <;> (try split) <;> omega
theorem gridR_above {V den : Int} (hd : 1 ≤ den) (h : 9223372036854775808 * (U : Int) ≤ V) : 9223372036854775808 ≤ gridR V den := by
  have u := U_int
  unfold gridR
  rw [Int.le_ediv_iff_mul_le (by omega)]
  have := Int.mul_le_mul_of_nonneg_left hd (show 0 ≤ 2 * V by omega)
  omega
theorem gridR_below {V den : Int} (hd : 1 ≤ den) (h : V < -(9223372036854775808 * (U : Int))) : gridR V den ≤ -9223372036854775808 := by
  have u := U_int
  unfold gridR
  have a : (2 * V * den + U) / (2 * U) < -9223372036854775807 := by
    rw [Int.ediv_lt_iff_lt_mul (by omega)]
    have := Int.mul_le_mul_of_nonpos_left (show 2 * V ≤ 0 by omega) hd
    omega
  omega
theorem grid_bad (x : Nat) (den lo hi : Int) (h : den < 1 ∨ 1048576 < den ∨ hi < lo) (w : World) : Calls Tryd.prog 48 #[.float .f64 x, .int .i64 den, .int .i64 lo, .int .i64 hi] w fun e w' => e = .returned (.tuple #[.int .i64 0, .int .i64 1]) ∧ Below w.heap.size w w' := by
  have s : den < 1 ∨ (¬ den < 1 ∧ 1048576 < den) ∨ (¬ den < 1 ∧ ¬ 1048576 < den ∧ hi < lo) := by omega
  clear h
  rcases s with a | ⟨a, b⟩ | ⟨a, b, c⟩
  all_goals
    go_enter Tryd.func48, Tryd.ntmps48
    go_wp2_with fail
    go_returns
    exact ⟨rfl, Below.refl _ _⟩
theorem grid_far (x : Nat) (den lo hi : Int) (h : ¬ (den < 1 ∨ 1048576 < den ∨ hi < lo)) (nn : nanB x = false) (g1 g2 : Bool) (h1 : (FloatKind.f64.format.order x 4890909195324358656 == some Ordering.gt) = g1) (h2 : (FloatKind.f64.format.order x 4890909195324358656 == some Ordering.eq) = g2) (h3 : (g1 || g2) = true) (w : World) : Calls Tryd.prog 48 #[.float .f64 x, .int .i64 den, .int .i64 lo, .int .i64 hi] w fun e w' => e = .returned (.tuple #[.int .i64 hi, .int .i64 0]) ∧ Below w.heap.size w w' := by
  have N := Lib.hid (isnan_any x)
  rw [nn] at N
  have a : ¬ den < 1 := by omega
  have b : ¬ 1048576 < den := by omega
  have c : ¬ hi < lo := by omega
  clear h nn
  cases g1 <;> cases g2
  · cases h3
  all_goals
    clear h3
    go_enter Tryd.func48, Tryd.ntmps48
    go_wp2_with fail
    refine (N.out _).mono ?_
    rintro e w1 ⟨rfl, rfl⟩
    go_wp2_with fail
    go_returns
    exact ⟨rfl, Below.refl _ _⟩
theorem grid_near (x : Nat) (den lo hi : Int) (h : ¬ (den < 1 ∨ 1048576 < den ∨ hi < lo)) (nn : nanB x = false) (h1 : (FloatKind.f64.format.order x 4890909195324358656 == some Ordering.gt) = false) (h2 : (FloatKind.f64.format.order x 4890909195324358656 == some Ordering.eq) = false) (h3 : (FloatKind.f64.format.order x 14114281232179134464 == some Ordering.lt) = true) (w : World) : Calls Tryd.prog 48 #[.float .f64 x, .int .i64 den, .int .i64 lo, .int .i64 hi] w fun e w' => e = .returned (.tuple #[.int .i64 lo, .int .i64 0]) ∧ Below w.heap.size w w' := by
  have N := Lib.hid (isnan_any x)
  rw [nn] at N
  have a : ¬ den < 1 := by omega
  have b : ¬ 1048576 < den := by omega
  have c : ¬ hi < lo := by omega
  clear h nn
  go_enter Tryd.func48, Tryd.ntmps48
  go_wp2_with fail
  refine (N.out _).mono ?_
  rintro e w1 ⟨rfl, rfl⟩
  go_wp2_with fail
  go_returns
  exact ⟨rfl, Below.refl _ _⟩
theorem inf_key {x : Nat} (h : rung x = 9218868437227405312) : key x = if sgn x then -9218868437227405312 else 9218868437227405312 := by
  unfold key sg
  rw [h]
  cases sgn x <;> rfl
/-- Grid, in general -/
theorem kgrid_any (x : Nat) (den lo hi : Int) (hx : x < 18446744073709551616) (a0 : -9223372036854775808 ≤ lo) (a2 : hi ≤ 9223372036854775807) (w : World) (hD : Deb w) :
    Calls Tryd.prog 48 #[.float .f64 x, .int .i64 den, .int .i64 lo, .int .i64 hi] w fun e w' => e = .returned (.tuple #[.int .i64 (gridN x den lo hi), .int .i64 (gridE x den lo hi)]) ∧ Below w.heap.size w w' := by
  unfold gridN gridE
  by_cases b : den < 1 ∨ 1048576 < den ∨ hi < lo
  · rw [if_pos b, if_pos b]
    exact grid_bad x den lo hi b w
  · rw [if_neg b, if_neg b]
    have d0 : 1 ≤ den := by omega
    have a1 : lo ≤ hi := by omega
    cases nn : nanB x
    · simp only [Bool.false_eq_true, if_false]
      obtain ⟨e1, _, e3⟩ := eql_key x 4890909195324358656 nn (by decide)
      have e4 := (eql_key x 14114281232179134464 nn (by decide)).2.1
      have nr := of_decide_eq_false nn
      cases ii : infB x
      · simp only [Bool.false_eq_true, if_false]
        have fin : rung x < 9218868437227405312 := by have := of_decide_eq_false ii; omega
        obtain ⟨k1, k2⟩ := key_in x fin
        by_cases c1 : key x < key 4890909195324358656
        · rw [decide_eq_false (by omega)] at e1 e3
          by_cases c2 : key 14114281232179134464 ≤ key x
          · rw [decide_eq_false (by omega)] at e4
            obtain ⟨n, h, S, C⟩ := ksplit_any x hx fin (k2.1 c2) (k1.1 c1)
            rw [← grid_of_half n den (sval x) h S.e]
            exact grid_some x n den lo hi h (fun w d => (C w d).mono fun e w' k => ⟨k.1, by rw [k.2]; exact Below.refl _ _⟩) S.n0 S.n1 d0 (by omega) (by have := S.hh; omega) a0 a1 a2 nn e3 e1 e4 w hD
          · rw [decide_eq_true (by omega)] at e4
            have l := gridR_below d0 (show sval x < -(9223372036854775808 * (U : Int)) by
              by_cases q : sval x < -(9223372036854775808 * (U : Int))
              · exact q
              · exact absurd (k2.2 (by omega)) c2)
            rw [lmt_lo (by omega) a1]
            exact grid_near x den lo hi b nn e3 e1 e4 w
        · have l := gridR_above d0 (show 9223372036854775808 * (U : Int) ≤ sval x by
            by_cases q : sval x < 9223372036854775808 * (U : Int)
            · exact absurd (k1.2 q) c1
            · omega)
          rw [lmt_hi (by omega) a1]
          refine grid_far x den lo hi b nn _ _ e3 e1 ?_ w
          by_cases q : key x = key 4890909195324358656
          · rw [decide_eq_true q]; simp
          · rw [decide_eq_true (show key 4890909195324358656 < key x by omega)]; rfl
      · simp only [if_true]
        have ir := inf_key (of_decide_eq_true ii)
        rw [ir, show key 4890909195324358656 = 4890909195324358656 by decide] at e1 e3
        rw [ir, show key 14114281232179134464 = -4890909195324358656 by decide] at e4
        cases s : sgn x
        · rw [s] at e1 e3
          simp only [Bool.false_eq_true, if_false] at e1 e3 ⊢
          exact grid_far x den lo hi b nn _ _ e3 e1 (by decide) w
        · rw [s] at e1 e3 e4
          simp only [if_true] at e1 e3 e4 ⊢
          exact grid_near x den lo hi b nn e3 e1 e4 w
    · simp only [if_true]
      exact grid_nan x den lo hi d0 (by omega) a1 nn w
end Go.Proofs.YtbolifjkhoiphaaDoor
