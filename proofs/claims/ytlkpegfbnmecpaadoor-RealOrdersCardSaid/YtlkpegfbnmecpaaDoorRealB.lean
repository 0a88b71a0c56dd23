/- The reference's kinds of floats. -/
import Derived.Test.YtlkpegfbnmecpaaDoorReal
import Derived.WalkKit
import Derived.WalkSpells
import Derived.WalkLawsBesides
import Derived.Handy
import Derived.Lib.Hide
import Derived.Outline
namespace Go.Proofs.YtlkpegfbnmecpaaDoor
open Go.RowKit Go.Proofs.Flo
set_option linter.unusedVariables false
set_option linter.unusedSimpArgs false
set_option maxRecDepth 100000
/-- the exponent's and the mantissa's bits -/
def expo (x : Nat) : Int := (x : Int) / 4503599627370496 % 2048
def mant (x : Nat) : Int := (x : Int) % 4503599627370496
theorem sgn_quo (x : Nat) (hx : x < 18446744073709551616) : ((x : Int) / 9223372036854775808 == 1) = sgn x := by
  unfold sgn
  by_cases h : x < 9223372036854775808
  · rw [show x / 9223372036854775808 % 2 = 0 by omega, show (x : Int) / 9223372036854775808 = 0 by omega]
    rfl
  · rw [show x / 9223372036854775808 % 2 = 1 by omega, show (x : Int) / 9223372036854775808 = 1 by omega]
    rfl
theorem fields3_any (x : Nat) (hx : x < 18446744073709551616) (w : World) : Calls Tryd.prog 33 #[.int .u64 (x : Int)] w fun e w' => e = .returned (.tuple #[.bool (sgn x), .int .i64 (expo x), .int .u64 (mant x)]) ∧ w' = w := by
  have e := sgn_quo x hx
  have e2 : (x : Int) / 4503599627370496 % 2048 = expo x := rfl
  have e3 : (x : Int) % 4503599627370496 = mant x := rfl
  have b0 : 0 ≤ expo x := by unfold expo; omega
  have b1 : expo x ≤ 2047 := by unfold expo; omega
  go_enter Tryd.func33, Tryd.ntmps33
  go_wp2_with fail
  go_returns
  exact ⟨rfl, rfl⟩
theorem kind_fields (x : Nat) (hx : x < 18446744073709551616) : kindN x = (if (expo x == 2047) && decide (0 < mant x) then 1 else if expo x == 2047 then 2 else if (expo x == 0) && (mant x == 0) then 3 else if expo x == 0 then 4 else 5) ∧ nanB x = ((expo x == 2047) && decide (0 < mant x)) := by
  have hr : ((rung x : Nat) : Int) = expo x * 4503599627370496 + mant x := by unfold rung expo mant; omega
  have m0 : 0 ≤ mant x := by unfold mant; omega
  have m1 : mant x < 4503599627370496 := by unfold mant; omega
  have b0 : 0 ≤ expo x := by unfold expo; omega
  have b1 : expo x ≤ 2047 := by unfold expo; omega
  have hn : nanB x = ((expo x == 2047) && decide (0 < mant x)) := by
    unfold nanB
    by_cases a : expo x = 2047
    · by_cases c : 0 < mant x
      · rw [decide_eq_true (by omega), a, decide_eq_true c]; rfl
      · rw [decide_eq_false (by omega), a, decide_eq_false c]; rfl
    · rw [decide_eq_false (by omega), show (expo x == 2047) = false by simpa using a]; rfl
  refine ⟨?_, hn⟩
  unfold kindN
  rw [hn]
  have hi : ((expo x == 2047) && decide (0 < mant x)) = false → infB x = (expo x == 2047) := fun h => by
    unfold infB
    by_cases a : expo x = 2047
    · rw [a] at h
      have : ¬ 0 < mant x := by simpa using h
      rw [decide_eq_true (by omega), a]; rfl
    · rw [decide_eq_false (by omega), show (expo x == 2047) = false by simpa using a]
  have hz : decide (rung x = 0) = ((expo x == 0) && (mant x == 0)) := by
    by_cases a : expo x = 0
    · by_cases c : mant x = 0
      · rw [decide_eq_true (by omega), a, c]; rfl
      · rw [decide_eq_false (by omega), a, show (mant x == 0) = false by simpa using c]; rfl
    · rw [decide_eq_false (by omega), show (expo x == 0) = false by simpa using a]; rfl
  have hs : decide (rung x < 4503599627370496) = (expo x == 0) := by
    by_cases a : expo x = 0
    · rw [decide_eq_true (by omega), a]; rfl
    · rw [decide_eq_false (by omega), show (expo x == 0) = false by simpa using a]
  rw [hz, hs]
  cases h : ((expo x == 2047) && decide (0 < mant x))
  · rw [hi h]
  · rfl
theorem kind3_any (x : Nat) (hx : x < 18446744073709551616) (w : World) : Calls Tryd.prog 13 #[.int .u64 (x : Int)] w fun e w' => e = .returned (.tuple #[.int .i64 (kindN x), .bool (kindS x)]) ∧ w' = w := by
  obtain ⟨k1, k2⟩ := kind_fields x hx
  have F := Lib.hid (fields3_any x hx)
  have KS : kindS x = if nanB x then false else sgn x := rfl
  rw [k2] at KS
  have KN := Lib.hid k1
  obtain ⟨E, hE⟩ : ∃ E, expo x = E := ⟨_, rfl⟩
  obtain ⟨M, hM⟩ : ∃ M, mant x = M := ⟨_, rfl⟩
  obtain ⟨s, hs⟩ : ∃ s, sgn x = s := ⟨_, rfl⟩
  rw [hE, hM] at KN KS F
  rw [hs] at KS F
  obtain ⟨f1, h1⟩ : ∃ f, (E == 2047) = f := ⟨_, rfl⟩
  obtain ⟨f2, h2⟩ : ∃ f, decide (0 < M) = f := ⟨_, rfl⟩
  obtain ⟨f3, h3⟩ : ∃ f, (E == 0) = f := ⟨_, rfl⟩
  obtain ⟨f4, h4⟩ : ∃ f, (M == 0) = f := ⟨_, rfl⟩
  rw [h1, h2] at KS
  rw [h1, h2, h3, h4] at KN
  have KSH := Lib.hid KS
  clear KS k1 k2 hE hM hs
  cases f1
  · cases f3
    · go_enter Tryd.func13, Tryd.ntmps13
      go_wp2_with fail
      refine (F.out _).mono ?_
      rintro e w1 ⟨rfl, rfl⟩
      go_wp2_with fail
      go_returns
      exact ⟨by rw [KN.out, KSH.out]; rfl, rfl⟩
    · cases f4
      all_goals
        go_enter Tryd.func13, Tryd.ntmps13
        go_wp2_with fail
        refine (F.out _).mono ?_
        rintro e w1 ⟨rfl, rfl⟩
        go_wp2_with fail
        go_returns
        exact ⟨by rw [KN.out, KSH.out]; rfl, rfl⟩
  · cases f2
    all_goals
      go_enter Tryd.func13, Tryd.ntmps13
      go_wp2_with fail
      refine (F.out _).mono ?_
      rintro e w1 ⟨rfl, rfl⟩
      go_wp2_with fail
      go_returns
      exact ⟨by rw [KN.out, KSH.out]; rfl, rfl⟩
end Go.Proofs.YtlkpegfbnmecpaaDoor
