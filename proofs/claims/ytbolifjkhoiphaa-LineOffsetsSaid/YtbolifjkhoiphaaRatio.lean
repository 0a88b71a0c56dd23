/- Package ratio: what each function returns, and that of memory only new blocks are laid. -/
import Derived.Test.YtbolifjkhoiphaaWideE
import Derived.WalkKit
import Derived.WalkSpells
import Derived.WalkLawsBesides
import Derived.Handy
import Derived.Lib.Hide
import Derived.Deep.QuietTactic
import Derived.BigQuiet
import Derived.LoopTactic
import Derived.Deep.RegionHeld3
import Derived.Deep.RegionWith
import Derived.Outline
import Derived.Deep.DeepCutAuto
namespace Go.Proofs.Ytbolifjkhoiphaa
open Go.RowKit
set_option linter.unusedVariables false
set_option maxRecDepth 100000
set_option linter.unusedSimpArgs false

theorem gcd_step (x y : Int) (x0 : 0 ≤ x) (y0 : 0 < y) : Int.gcd y (x % y) = Int.gcd x y := by
  obtain ⟨a, rfl⟩ := Int.eq_ofNat_of_zero_le x0
  obtain ⟨b, rfl⟩ := Int.eq_ofNat_of_zero_le (Int.le_of_lt y0)
  rw [← Int.natCast_emod]
  simp only [Int.gcd_natCast_natCast]
  rw [Nat.gcd_comm a b, Nat.gcd_rec b a, Nat.gcd_comm]
theorem divisor_any (a b g : Int) (a0 : 0 ≤ a) (a1 : a < 18446744073709551616) (b0 : 0 ≤ b) (b1 : b < 18446744073709551616) (hg : Hid (((Int.gcd a b : Nat) : Int) = g)) (w : World) :
    Calls Try.prog 114 #[.int .u64 a, .int .u64 b] w fun e w' => e = .returned (.int .u64 g) ∧ ∃ n, w' = w.drewN n := by
  go_enter Try.func114, Try.ntmps114
  go_wp2
  go_loopw [0, 1] (fun s t wr => ∃ x y : Int, s = .int .u64 x ∧ t = .int .u64 y ∧ 0 ≤ x ∧ x < 18446744073709551616 ∧ 0 ≤ y ∧ y < 18446744073709551616 ∧ Hid (((Int.gcd x y : Nat) : Int) = g) ∧ ∃ n, wr = w.drewN n) (fun _ t _ => (intOf t).toNat)
  case atStart => exact ⟨a, b, rfl, rfl, a0, a1, b0, b1, hg, 0, rfl⟩
  case round =>
    obtain ⟨x, y, rfl, rfl, x0, x1, y0, y1, hx, n, rfl⟩ := hrel
    by_cases hy : y = 0
    · subst hy
      have e := hx.out
      rw [Int.gcd_zero_right] at e
      have e2 : x = g := by omega
      subst e2
      clear e
      go_wp2
      go_ret
      exact ⟨rfl, n, rfl⟩
    · have yb : (y == 0) = false := by simpa using hy
      have m0 : 0 ≤ x % y := Int.emod_nonneg _ hy
      have m1 : x % y < y := Int.emod_lt_of_pos _ (by omega)
      go_wp2
      go_quiet (fail)
      go_wp2
      go_roundw
      case rel => exact ⟨y, x % y, rfl, rfl, by omega, by omega, m0, by omega, Lib.hid (by rw [gcd_step x y x0 (by omega)]; exact hx.out), n + nq, by simp [World.drewN, Nat.add_assoc]⟩
      case measure => simp [intOf]; omega
theorem rsize_any (n m : Int) (h0 : -9223372036854775808 ≤ n) (h1 : n ≤ 9223372036854775807) (hm : m = if n < 0 then -n else n) (w : World) :
    Calls Try.prog 115 #[.int .i64 n] w fun e w' => e = .returned (.int .u64 m) ∧ w' = w := by
  by_cases c : n < 0
  · have f1 : IntKind.u64.wrap (-IntKind.u64.wrap n) = m := by simp only [IntKind.wrap_u64, hm]; split <;> omega
    clear hm
    go_enter Try.func115, Try.ntmps115
    go_wp2
    go_returns
    exact ⟨rfl, rfl⟩
  · obtain rfl : m = n := by rw [hm]; split <;> omega
    clear hm
    have f1 : IntKind.u64.wrap m = m := by simp only [IntKind.wrap_u64]; omega
    go_enter Try.func115, Try.ntmps115
    go_wp2
    go_returns
    exact ⟨rfl, rfl⟩
theorem gcd_abs (n d : Int) : Int.gcd (if n < 0 then -n else n) (if d < 0 then -d else d) = Int.gcd n d := by
  split <;> split <;> simp
/-- a ratio that may be -/
def goodB (n d : Int) : Bool := decide (1 ≤ d) && ((Int.gcd n d : Int) == 1)
theorem good_any (n d : Int) (h0 : -9223372036854775808 ≤ n) (h1 : n ≤ 9223372036854775807) (g0 : -9223372036854775808 ≤ d) (g1 : d ≤ 9223372036854775807) (w : World) :
    Calls Try.prog 103 #[.agg #[.int .i64 n, .int .i64 d]] w fun e w' => e = .returned (.bool (goodB n d)) ∧ Below w.heap.size w w' := by
  by_cases hd : 1 ≤ d
  · obtain ⟨m, hm⟩ : ∃ m, m = if n < 0 then -n else n := ⟨_, rfl⟩
    have m0 : 0 ≤ m := by rw [hm]; split <;> omega
    have m1 : m < 18446744073709551616 := by rw [hm]; split <;> omega
    obtain ⟨g, hg⟩ : ∃ g, ((Int.gcd m d : Nat) : Int) = g := ⟨_, rfl⟩
    have hg2 : goodB n d = (g == 1) := by
      unfold goodB
      rw [decide_eq_true hd, ← hg, ← gcd_abs n d, if_neg (show ¬ d < 0 by omega), ← hm]
      rfl
    rw [hg2]
    have HG := Lib.hid hg
    have HM := Lib.hid hm
    have HD : Hid (d = if d < 0 then -d else d) := Lib.hid (by rw [if_neg (by omega)])
    have dd : (decide (1 ≤ d)) = true := by simpa using hd
    clear hg hm hg2
    go_enter Try.func103, Try.ntmps103
    go_wp2
    go_quiet ((first
      | (go_at_call 115; first | (with_reducible exact Calls.quiet_of_same (rsize_any n m h0 h1 HM.out _)) | (with_reducible exact Calls.quiet_of_same (rsize_any d d g0 g1 HD.out _)))
      | (go_at_call 114; exact Calls.quiet_of (divisor_any m d g m0 m1 (by omega) (by omega) HG _))))
    go_wp2
    go_returns
    exact ⟨rfl, by repeat' (first | exact Below.refl _ _ | (with_reducible refine below_drewN ?_ _) | (with_reducible refine Below.drew ?_) | (with_reducible refine Below.alloc ?_ ?_ _) | (with_reducible refine Below.setCell ?_ ?_ _) | go_size)⟩
  · have hg2 : goodB n d = false := by unfold goodB; rw [decide_eq_false hd]; rfl
    rw [hg2]
    have dd : (decide (1 ≤ d)) = false := by simpa using hd
    go_enter Try.func103, Try.ntmps103
    go_wp2
    go_quiet (fail)
    go_wp2
    go_returns
    exact ⟨rfl, by repeat' (first | exact Below.refl _ _ | (with_reducible refine below_drewN ?_ _) | (with_reducible refine Below.drew ?_) | (with_reducible refine Below.alloc ?_ ?_ _) | (with_reducible refine Below.setCell ?_ ?_ _) | go_size)⟩
end Go.Proofs.Ytbolifjkhoiphaa
