/- The walk of FixedOrder. -/
import Derived.Test.YtkohefgendcofaaSpk4
import Derived.WalkKit
import Derived.WalkSpells
import Derived.WalkLawsBesides
import Derived.Handy
import Derived.Lib.Hide
import Derived.Deep.QuietTactic
import Derived.BigQuiet
import Derived.LoopTactic
import Derived.Deep.RegionHeld3
import Derived.Deep.RegionWith
import Derived.Outline
import Derived.Deep.DeepCutAuto
namespace Go.Proofs.Ytkohefgendcofaa
open Go.RowKit
set_option linter.unusedVariables false
set_option linter.unusedSimpArgs false
set_option maxRecDepth 100000
theorem order_facts (A B k : Int) (h : A ≤ B) (a0 : -36028797018963968 ≤ A) (a1 : A ≤ 36028797018963967) (b0 : -36028797018963968 ≤ B) (b1 : B ≤ 36028797018963967) (k0 : -2147483648 ≤ k) (k1 : k ≤ 2147483647) :
    A / 64 ≤ B / 64 ∧ up64 A ≤ up64 B ∧ near64 A ≤ near64 B ∧ A / 64 ≤ near64 A ∧ near64 A ≤ up64 A ∧ up64 A - A / 64 ≤ 1 ∧ -562949953421313 ≤ near64 A ∧ near64 A ≤ 562949953421313 ∧ -562949953421313 ≤ up64 A ∧ up64 A ≤ 562949953421313 ∧
    near64 (64 * k) = k ∧ 64 * k / 64 = k ∧ up64 (64 * k) = k ∧ near64 (A + 64 * k) = near64 A + k ∧ (A + 64 * k) / 64 = A / 64 + k ∧ up64 (A + 64 * k) = up64 A + k := by
  unfold up64 near64
  repeat' split
  all_goals omega
set_option maxHeartbeats 2000000 in
theorem law_order4 (a b n : Int) (a0 : -9223372036854775808 ≤ a) (a1 : a ≤ 9223372036854775807) (b0 : -9223372036854775808 ≤ b) (b1 : b ≤ 9223372036854775807) (n0 : -2147483648 ≤ n) (n1 : n ≤ 2147483647) (w : World) :
    Calls Try.prog 10 #[.int .i64 a, .int .i64 b, .int .i32 n] w fun e w' => e = .returned (.bool true) ∧ Below w.heap.size w w' := by
  have x0 : -36028797018963968 ≤ a / 256 := by omega
  have x1 : a / 256 ≤ 36028797018963967 := by omega
  have y0 : -36028797018963968 ≤ b / 256 := by omega
  have y1 : b / 256 ≤ 36028797018963967 := by omega
  go_enter Try.func10, Try.ntmps10
  go_wp2_with fail
  refine (speaks4_any _).mono ?_
  rintro e w1 ⟨rfl, hb1⟩
  have K1 := Lib.hid hb1
  clear hb1
  go_upto_region 4 with fail
  obtain ⟨x, hx⟩ : ∃ x, a / 256 = x := ⟨_, rfl⟩
  obtain ⟨y, hy⟩ : ∃ y, b / 256 = y := ⟨_, rfl⟩
  rw [hx] at x0 x1 ⊢
  rw [hy] at y0 y1 ⊢
  clear hx hy
  by_cases c : y < x
  · have c' : y ≤ x := by omega
    obtain ⟨f1, f2, f3, f4, f5, f6, f7, f8, f9, f10, e1, e2, e3, e4, e5, e6⟩ := order_facts y x n (by omega) (by omega) (by omega) (by omega) (by omega) n0 n1
    have g1 : ¬ 1 < up64 y - y / 64 := by omega
    go_wp2_with (first
      | (go_at_call 54; refine (floor_any _ (by omega) (by omega) _).mono ?_; rintro e w' ⟨rfl, rfl⟩)
      | (go_at_call 56; refine (ceil_any _ (by omega) (by omega) _).mono ?_; rintro e w' ⟨rfl, rfl⟩)
      | (go_at_call 57; refine (round_any _ (by omega) (by omega) _).mono ?_; rintro e w' ⟨rfl, rfl⟩))
    go_returns
    exact ⟨rfl, K1.out⟩
  · have c' : x ≤ y := by omega
    obtain ⟨f1, f2, f3, f4, f5, f6, f7, f8, f9, f10, e1, e2, e3, e4, e5, e6⟩ := order_facts x y n (by omega) (by omega) (by omega) (by omega) (by omega) n0 n1
    have g1 : ¬ 1 < up64 x - x / 64 := by omega
    go_wp2_with (first
      | (go_at_call 54; refine (floor_any _ (by omega) (by omega) _).mono ?_; rintro e w' ⟨rfl, rfl⟩)
      | (go_at_call 56; refine (ceil_any _ (by omega) (by omega) _).mono ?_; rintro e w' ⟨rfl, rfl⟩)
      | (go_at_call 57; refine (round_any _ (by omega) (by omega) _).mono ?_; rintro e w' ⟨rfl, rfl⟩))
    go_returns
    exact ⟨rfl, K1.out⟩
end Go.Proofs.Ytkohefgendcofaa
