/- Package wide: what each function returns, and that of memory only new blocks are laid. -/
import Derived.Test.YtmelbgabiklojaaRows
import Derived.Test.YtmelbgabiklojaaShelf
import Derived.Test.YtmelbgabiklojaaNum
import Derived.Test.YtmelbgabiklojaaDiv64
import Derived.Test.YtmelbgabiklojaaWideB
import Derived.WalkKit
import Derived.WalkSpells
import Derived.WalkLawsBesides
import Derived.Handy
import Derived.Lib.Hide
import Derived.Deep.QuietTactic
import Derived.BigQuiet
import Derived.Deep.RegionHeld3
import Derived.Deep.RegionWith
import Derived.Shelf.Spec.BitsCarry
namespace Go.Proofs.Ytmelbgabiklojaa
open Go.RowKit
set_option linter.unusedVariables false

theorem below_drewN {B : Nat} {a w : World} (h : Below B a w) (n : Nat) : Below B a (w.drewN n) := ⟨h.os, h.tape, h.output, h.size, h.block⟩
theorem mul64 (x y : Int) (hx : 0 ≤ x) (hx1 : x < 18446744073709551616) (hy : 0 ≤ y) (hy1 : y < 18446744073709551616) (w : World) :
    Calls Try.prog 80 #[.int .u64 x, .int .u64 y] w fun e w' => e = .returned (.tuple #[.int .u64 (x * y / 18446744073709551616), .int .u64 (x * y % 18446744073709551616)]) ∧ w' = w := by
  obtain ⟨x, rfl⟩ := Int.eq_ofNat_of_zero_le hx
  obtain ⟨y, rfl⟩ := Int.eq_ofNat_of_zero_le hy
  have := Try.bits_Mul64 x y (by omega) (by omega) w
  simpa using this
theorem mul_any (a b h l : Int) (h0 : -9223372036854775808 ≤ a) (h1 : a ≤ 9223372036854775807) (g0 : -9223372036854775808 ≤ b) (g1 : b ≤ 9223372036854775807)
    (p0 : -9223372036854775808 ≤ h) (p1 : h ≤ 9223372036854775807) (p2 : 0 ≤ l) (p3 : l < 18446744073709551616) (e : h * 18446744073709551616 + l = a * b) (w : World) :
    Calls Try.prog 75 #[.int .i64 a, .int .i64 b] w fun e w' => e = .returned (.agg #[.int .i64 h, .int .u64 l]) ∧ w' = w.alloc (.cells #[.int .i64 h, .int .u64 l] 84) := by
  by_cases s1 : a < 0 <;> by_cases s2 : b < 0
  · obtain ⟨x, hx⟩ : ∃ x, IntKind.u64.wrap a = x := ⟨_, rfl⟩
    obtain ⟨y, hy⟩ : ∃ y, IntKind.u64.wrap b = y := ⟨_, rfl⟩
    have ex : x = a + 18446744073709551616 := by rw [← hx, IntKind.wrap_u64]; omega
    have ey : y = b + 18446744073709551616 := by rw [← hy, IntKind.wrap_u64]; omega
    have em : x * y = a * b + 18446744073709551616 * b + 18446744073709551616 * a + 340282366920938463463374607431768211456 := by rw [ex, ey, Int.add_mul, Int.mul_add]; omega
    have f1 : x * y % 18446744073709551616 = l := by omega
    have f2 : wrap64 (IntKind.u64.wrap (IntKind.u64.wrap (x * y / 18446744073709551616 - y) - x)) = h := by simp only [wrap64, IntKind.wrap_u64]; omega
    have x0 : 0 ≤ x := by omega
    have x1 : x < 18446744073709551616 := by omega
    have y0 : 0 ≤ y := by omega
    have y1 : y < 18446744073709551616 := by omega
    clear e em ex ey
    go_enter Try.func75, Try.ntmps75
    go_wp2_with (go_at_call 80; refine (mul64 x y x0 x1 y0 y1 _).mono ?_; rintro e w' ⟨rfl, rfl⟩)
    go_returns
    exact ⟨rfl, rfl⟩
  · obtain ⟨x, hx⟩ : ∃ x, IntKind.u64.wrap a = x := ⟨_, rfl⟩
    have hy : IntKind.u64.wrap b = b := by rw [IntKind.wrap_u64]; omega
    have ex : x = a + 18446744073709551616 := by rw [← hx, IntKind.wrap_u64]; omega
    have em : x * b = a * b + 18446744073709551616 * b := by rw [ex, Int.add_mul]
    have f1 : x * b % 18446744073709551616 = l := by omega
    have f2 : wrap64 (IntKind.u64.wrap (x * b / 18446744073709551616 - b)) = h := by simp only [wrap64, IntKind.wrap_u64]; omega
    have x0 : 0 ≤ x := by omega
    have x1 : x < 18446744073709551616 := by omega
    clear e em ex
    go_enter Try.func75, Try.ntmps75
    go_wp2_with (go_at_call 80; refine (mul64 x b x0 x1 (by omega) (by omega) _).mono ?_; rintro e w' ⟨rfl, rfl⟩)
    go_returns
    exact ⟨rfl, rfl⟩
  · obtain ⟨y, hy⟩ : ∃ y, IntKind.u64.wrap b = y := ⟨_, rfl⟩
    have hx : IntKind.u64.wrap a = a := by rw [IntKind.wrap_u64]; omega
    have ey : y = b + 18446744073709551616 := by rw [← hy, IntKind.wrap_u64]; omega
    have em : a * y = a * b + 18446744073709551616 * a := by rw [ey, Int.mul_add]; omega
    have f1 : a * y % 18446744073709551616 = l := by omega
    have f2 : wrap64 (IntKind.u64.wrap (a * y / 18446744073709551616 - a)) = h := by simp only [wrap64, IntKind.wrap_u64]; omega
    have y0 : 0 ≤ y := by omega
    have y1 : y < 18446744073709551616 := by omega
    clear e em ey
    go_enter Try.func75, Try.ntmps75
    go_wp2_with (go_at_call 80; refine (mul64 a y (by omega) (by omega) y0 y1 _).mono ?_; rintro e w' ⟨rfl, rfl⟩)
    go_returns
    exact ⟨rfl, rfl⟩
  · have hx : IntKind.u64.wrap a = a := by rw [IntKind.wrap_u64]; omega
    have hy : IntKind.u64.wrap b = b := by rw [IntKind.wrap_u64]; omega
    have f1 : a * b % 18446744073709551616 = l := by omega
    have f2 : a * b / 18446744073709551616 = h := by omega
    clear e
    go_enter Try.func75, Try.ntmps75
    go_wp2_with (go_at_call 80; refine (mul64 a b (by omega) (by omega) (by omega) (by omega) _).mono ?_; rintro e w' ⟨rfl, rfl⟩)
    go_returns
    exact ⟨rfl, rfl⟩
theorem two_step (u b m : Int) (m0 : 0 < m) (u0 : 0 ≤ u) (b0 : 0 ≤ b) :
    (u * 18446744073709551616 + b) / m = u / m * 18446744073709551616 + (u % m * 18446744073709551616 + b) / m ∧ (u * 18446744073709551616 + b) % m = (u % m * 18446744073709551616 + b) % m := by
  have d := Int.mul_ediv_add_emod u m
  have e : u * 18446744073709551616 + b = (u % m * 18446744073709551616 + b) + m * (u / m * 18446744073709551616) := by
    rw [← Int.mul_assoc]; omega
  rw [e, Int.add_mul_ediv_left _ _ (by omega), Int.add_mul_emod_self_left]
  exact ⟨by omega, rfl⟩
theorem divide_any (a b m qh ql r : Int) (h0 : -9223372036854775808 ≤ a) (h1 : a ≤ 9223372036854775807) (h2 : 0 ≤ b) (h3 : b < 18446744073709551616) (m0 : 0 < m) (m1 : m < 18446744073709551616)
    (p0 : -9223372036854775808 ≤ qh) (p1 : qh ≤ 9223372036854775807) (p2 : 0 ≤ ql) (p3 : ql < 18446744073709551616)
    (eq : (qh * 18446744073709551616 + ql - (IntKind.u64.wrap a * 18446744073709551616 + b) / m) % 340282366920938463463374607431768211456 = 0) (er : (IntKind.u64.wrap a * 18446744073709551616 + b) % m = r) (w : World) :
    Calls Try.prog 83 #[.agg #[.int .i64 a, .int .u64 b], .int .u64 m] w fun e w' => e = .returned (.tuple #[.agg #[.int .i64 qh, .int .u64 ql], .int .u64 r]) ∧ Below w.heap.size w w' := by
  obtain ⟨u, hu⟩ : ∃ u, IntKind.u64.wrap a = u := ⟨_, rfl⟩
  rw [hu] at eq er
  have u0 : 0 ≤ u := by rw [← hu, IntKind.wrap_u64]; omega
  have u1 : u < 18446744073709551616 := by rw [← hu, IntKind.wrap_u64]; omega
  obtain ⟨t1, t2⟩ := two_step u b m m0 u0 h2
  have r0 := Int.emod_nonneg u (show m ≠ 0 by omega)
  have r1 := Int.emod_lt_of_pos u m0
  have q0 : 0 ≤ u / m := Int.ediv_nonneg u0 (by omega)
  have q1 : u / m ≤ u := Int.ediv_le_self _ u0
  have v0 : 0 ≤ (u % m * 18446744073709551616 + b) / m := Int.ediv_nonneg (by omega) (by omega)
  have v1 : (u % m * 18446744073709551616 + b) / m < 18446744073709551616 := by rw [Int.ediv_lt_iff_lt_mul m0]; omega
  have f1 : (u % m * 18446744073709551616 + b) / m = ql := by omega
  have f2 : wrap64 (u / m) = qh := by simp only [wrap64]; omega
  have f3 : (u % m * 18446744073709551616 + b) % m = r := by rw [← t2, er]
  have mz : (m == 0) = false := by rw [beq_eq_false_iff_ne]; omega
  clear eq er t1 t2
  go_enter Try.func83, Try.ntmps83
  go_wp2
  go_quiet ((go_at_call 86; refine Calls.quiet_of (div64_any (u % m) b m r0 r1 h2 h3 m1 _)))
  go_wp2
  go_returns
  exact ⟨rfl, by repeat' (first | exact Below.refl _ _ | assumption | (with_reducible refine below_drewN ?_ _) | (with_reducible refine Below.drew ?_) | (with_reducible refine Below.alloc ?_ ?_ _) | (with_reducible refine Below.setCell ?_ ?_ _) | go_size)⟩
end Go.Proofs.Ytmelbgabiklojaa
