/- Package real and the reference's: kinds and order of floats. -/
import Derived.Test.YtbolifjkhoiphaaDoorProg
import Derived.Test.YtbolifjkhoiphaaDoorFlo
import Derived.WalkKit
import Derived.WalkSpells
import Derived.WalkLawsBesides
import Derived.Handy
import Derived.Lib.Hide
import Derived.Outline
namespace Go.Proofs.YtbolifjkhoiphaaDoor
open Go.RowKit Go.Proofs.Flo
set_option linter.unusedVariables false
set_option linter.unusedSimpArgs false
set_option maxRecDepth 100000
theorem run_fcmp (t : TypeId) (x y : Nat) (w : World) :
    (binOp .eql t (.float .f64 x) (.float .f64 y)).run Tryd.prog w = .ok (.bool (Ieee.double.order x y == some .eq)) w ∧
    (binOp .neq t (.float .f64 x) (.float .f64 y)).run Tryd.prog w = .ok (.bool (Ieee.double.order x y != some .eq)) w ∧
    (binOp .lss t (.float .f64 x) (.float .f64 y)).run Tryd.prog w = .ok (.bool (Ieee.double.order x y == some .lt)) w ∧
    (binOp .gtr t (.float .f64 x) (.float .f64 y)).run Tryd.prog w = .ok (.bool (Ieee.double.order x y == some .gt)) w :=
  ⟨rfl, rfl, rfl, rfl⟩
theorem cmp_self (x : Int) : compare x x = .eq := by
  show compareOfLessAndEq x x = _
  unfold compareOfLessAndEq
  rw [if_neg (by omega), if_pos rfl]
theorem neq_self (x : Nat) : (FloatKind.f64.format.order x x != some Ordering.eq) = nanB x := by
  show (Ieee.double.order x x != some Ordering.eq) = nanB x
  cases h : nanB x
  · rw [order_key x x h h, cmp_self]; rfl
  · rw [order_nan x x (.inl h)]; rfl
theorem isnan_any (x : Nat) (w : World) : Calls Tryd.prog 28 #[.float .f64 x] w fun e w' => e = .returned (.bool (nanB x)) ∧ w' = w := by
  have e := neq_self x
  go_enter Tryd.func28, Tryd.ntmps28
  go_wp2_with fail
  go_returns
  exact ⟨rfl, rfl⟩
theorem run_bits (x : Nat) (w : World) : (callFunc 14 #[.float .f64 x]).run Tryd.prog w = .ok (.value (.int .u64 x)) w := by kernel_rfl
theorem run_frombits (x : Int) (w : World) : (callFunc 13 #[.int .u64 x]).run Tryd.prog w = .ok (.value (.float .f64 x.toNat)) w := by kernel_rfl
theorem sgn_wrap (x : Nat) (hx : x < 18446744073709551616) : decide (wrap64 (x : Int) < 0) = sgn x := by
  unfold sgn
  by_cases h : x < 9223372036854775808
  · rw [show x / 9223372036854775808 % 2 = 0 by omega]
    simp only [wrap64]
    exact decide_eq_false (by omega)
  · rw [show x / 9223372036854775808 % 2 = 1 by omega]
    simp only [wrap64]
    exact decide_eq_true (by omega)
theorem signbit_any (x : Nat) (hx : x < 18446744073709551616) (w : World) : Calls Tryd.prog 82 #[.float .f64 x] w fun e w' => e = .returned (.bool (sgn x)) ∧ w' = w := by
  have e := sgn_wrap x hx
  have r := run_bits x
  go_enter Tryd.func82, Tryd.ntmps82
  go_wp2_with fail
  go_returns
  exact ⟨rfl, rfl⟩
/-- does a word come before another one in the order of all floats? -/
def befB (x y : Nat) : Bool := if nanB x then false else if nanB y then true else if key x = key y then sgn x && !sgn y else decide (key x < key y)
theorem eql_key (x y : Nat) (hx : nanB x = false) (hy : nanB y = false) : (FloatKind.f64.format.order x y == some Ordering.eq) = decide (key x = key y) ∧ (FloatKind.f64.format.order x y == some Ordering.lt) = decide (key x < key y) ∧ (FloatKind.f64.format.order x y == some Ordering.gt) = decide (key y < key x) := by
  have e : FloatKind.f64.format.order x y = some (compare (key x) (key y)) := order_key x y hx hy
  rw [e]
  by_cases a : key x < key y
  · rw [cmp_lt a, decide_eq_true a, decide_eq_false (by omega), decide_eq_false (by omega)]; exact ⟨rfl, rfl, rfl⟩
  · by_cases b : key y < key x
    · rw [cmp_gt b, decide_eq_false a, decide_eq_true b, decide_eq_false (by omega)]; exact ⟨rfl, rfl, rfl⟩
    · have c : key x = key y := by omega
      rw [c, cmp_self, decide_eq_true rfl, decide_eq_false (by omega)]; exact ⟨rfl, rfl, rfl⟩
/-- the order of all floats -/
def cmpB (x y : Nat) : Int := if befB x y then -1 else if befB y x then 1 else 0
theorem abs_bits (x : Nat) (hx : x < 18446744073709551616) : (bits .andNot .u64 (x : Int) 9223372036854775808).toNat = rung x := by
  have e : BitVec.ofInt 64 (x : Int) &&& ~~~ (BitVec.ofInt 64 9223372036854775808) = BitVec.ofNat 64 (x % 9223372036854775808) := by
    apply BitVec.eq_of_toNat_eq
    rw [BitVec.toNat_and]
    have h1 : (BitVec.ofInt 64 (x : Int)).toNat = x := by simp; omega
    have h2 : (~~~ (BitVec.ofInt 64 9223372036854775808)).toNat = 2 ^ 63 - 1 := by decide
    rw [h1, h2, Nat.and_two_pow_sub_one_eq_mod]
    simp; omega
  show (IntKind.u64.wrap ((BitVec.ofInt 64 (x : Int) &&& ~~~ (BitVec.ofInt 64 9223372036854775808)).toNat : Int)).toNat = _
  rw [e, IntKind.wrap_u64]
  unfold rung
  simp; omega
theorem abs_any (x : Nat) (hx : x < 18446744073709551616) (w : World) : Calls Tryd.prog 84 #[.float .f64 x] w fun e w' => e = .returned (.float .f64 (rung x)) ∧ w' = w := by
  have r := run_bits x
  have q := run_frombits
  have e := abs_bits x hx
  go_enter Tryd.func84, Tryd.ntmps84
  go_wp2_with fail
  go_returns
  exact ⟨rfl, rfl⟩
theorem rung_lt (x : Nat) : rung x < 9223372036854775808 := Nat.mod_lt _ (by decide)
theorem rung_rung (x : Nat) : rung (rung x) = rung x := Nat.mod_eq_of_lt (rung_lt x)
theorem sgn_rung (x : Nat) : sgn (rung x) = false := by
  unfold sgn
  rw [Nat.div_eq_of_lt (rung_lt x)]
  rfl
theorem key_rung (x : Nat) : key (rung x) = rung x := by
  unfold key
  rw [sgn_rung, rung_rung]
  rfl
theorem nan_rung (x : Nat) : nanB (rung x) = nanB x := by unfold nanB; rw [rung_rung]
def infB (x : Nat) : Bool := decide (rung x = 9218868437227405312)
theorem inf_cmp (x : Nat) : (FloatKind.f64.format.order (rung x) 9218868437227405311 == some Ordering.gt) = infB x := by
  cases h : nanB x
  · rw [(eql_key (rung x) 9218868437227405311 (by rw [nan_rung]; exact h) (by decide)).2.2, key_rung, show key 9218868437227405311 = 9218868437227405311 from by decide]
    have := of_decide_eq_false h
    unfold infB
    by_cases c : rung x = 9218868437227405312
    · rw [decide_eq_true c, decide_eq_true (by omega)]
    · rw [decide_eq_false c, decide_eq_false (by omega)]
  · have e : FloatKind.f64.format.order (rung x) 9218868437227405311 = none := order_nan _ _ (.inl (by rw [nan_rung]; exact h))
    have := of_decide_eq_true h
    rw [e]
    unfold infB
    rw [decide_eq_false (by omega)]
    rfl
theorem isinf_any (x : Nat) (hx : x < 18446744073709551616) (w : World) : Calls Tryd.prog 83 #[.float .f64 x, .int .i64 0] w fun e w' => e = .returned (.bool (infB x)) ∧ w' = w := by
  have A := Lib.hid (abs_any x hx)
  have e := inf_cmp x
  go_enter Tryd.func83, Tryd.ntmps83
  go_wp2_with fail
  refine (A.out _).mono ?_
  rintro e w1 ⟨rfl, rfl⟩
  go_wp2_with fail
  go_returns
  exact ⟨rfl, rfl⟩
theorem zero_cmp (x : Nat) (h : nanB x = false) : (FloatKind.f64.format.order x 0 == some Ordering.eq) = decide (rung x = 0) := by
  rw [(eql_key x 0 h (by decide)).1, show key 0 = 0 from by decide]
  unfold key
  cases sgn x <;> simp only [sg, if_true, Bool.false_eq_true, if_false] <;> (by_cases c : rung x = 0 <;> simp [c])
theorem small_cmp (x : Nat) (h : nanB x = false) : (FloatKind.f64.format.order (rung x) 4503599627370496 == some Ordering.lt) = decide (rung x < 4503599627370496) := by
  rw [(eql_key (rung x) 4503599627370496 (by rw [nan_rung]; exact h) (by decide)).2.1, key_rung, show key 4503599627370496 = 4503599627370496 from by decide]
  by_cases c : rung x < 4503599627370496
  · rw [decide_eq_true c, decide_eq_true (by omega)]
  · rw [decide_eq_false c, decide_eq_false (by omega)]
/-- the kind, and whether the sign is minus -/
def kindN (x : Nat) : Int := if nanB x then 1 else if infB x then 2 else if decide (rung x = 0) then 3 else if decide (rung x < 4503599627370496) then 4 else 5
def kindS (x : Nat) : Bool := if nanB x then false else sgn x
theorem kkind_any (x : Nat) (hx : x < 18446744073709551616) (w : World) : Calls Tryd.prog 65 #[.float .f64 x] w fun e w' => e = .returned (.tuple #[.int .i64 (kindN x), .bool (kindS x)]) ∧ w' = w := by
  have A := Lib.hid (abs_any x hx)
  have N := Lib.hid (isnan_any x)
  have S := Lib.hid (signbit_any x hx)
  have I := Lib.hid (isinf_any x hx)
  have KN : Hid (kindN x = if nanB x then 1 else if infB x then 2 else if decide (rung x = 0) then 3 else if decide (rung x < 4503599627370496) then 4 else 5) := Lib.hid rfl
  have KS : Hid (kindS x = if nanB x then false else sgn x) := Lib.hid rfl
  have z1 := zero_cmp x
  have z2 := small_cmp x
  obtain ⟨f1, h1⟩ : ∃ f, nanB x = f := ⟨_, rfl⟩
  obtain ⟨f2, h2⟩ : ∃ f, infB x = f := ⟨_, rfl⟩
  obtain ⟨f3, h3⟩ : ∃ f, decide (rung x = 0) = f := ⟨_, rfl⟩
  obtain ⟨f4, h4⟩ : ∃ f, decide (rung x < 4503599627370496) = f := ⟨_, rfl⟩
  obtain ⟨f5, h5⟩ : ∃ f, sgn x = f := ⟨_, rfl⟩
  rw [h1] at N z1 z2
  rw [h2] at I
  rw [h3] at z1
  rw [h4] at z2
  rw [h5] at S
  rw [h1, h2, h3, h4] at KN
  rw [h1, h5] at KS
  clear h1 h2 h3 h4 h5
  cases f1
  · have y1 := z1 rfl
    have y2 := z2 rfl
    clear z1 z2
    go_enter Tryd.func65, Tryd.ntmps65
    go_wp2_with fail
    refine (S.out _).mono ?_
    rintro e w1 ⟨rfl, rfl⟩
    go_wp2_with fail
    refine (N.out _).mono ?_
    rintro e w1 ⟨rfl, rfl⟩
    go_wp2_with fail
    refine (I.out _).mono ?_
    rintro e w1 ⟨rfl, rfl⟩
    cases f2
    · cases f3
      · go_wp2_with fail
        refine (A.out _).mono ?_
        rintro e w1 ⟨rfl, rfl⟩
        cases f4
        all_goals
          go_wp2_with fail
          go_returns
          exact ⟨by rw [KN.out, KS.out]; rfl, rfl⟩
      · go_wp2_with fail
        go_returns
        exact ⟨by rw [KN.out, KS.out]; rfl, rfl⟩
    · go_wp2_with fail
      go_returns
      exact ⟨by rw [KN.out, KS.out]; rfl, rfl⟩
  · clear z1 z2
    go_enter Tryd.func65, Tryd.ntmps65
    go_wp2_with fail
    refine (S.out _).mono ?_
    rintro e w1 ⟨rfl, rfl⟩
    go_wp2_with fail
    refine (N.out _).mono ?_
    rintro e w1 ⟨rfl, rfl⟩
    go_wp2_with fail
    go_returns
    exact ⟨by rw [KN.out, KS.out]; rfl, rfl⟩
end Go.Proofs.YtbolifjkhoiphaaDoor
/- The reference's kinds of floats. -/
namespace Go.Proofs.YtbolifjkhoiphaaDoor
open Go.RowKit Go.Proofs.Flo
set_option linter.unusedVariables false
set_option linter.unusedSimpArgs false
set_option maxRecDepth 100000
/-- the exponent's and the mantissa's bits -/
def expo (x : Nat) : Int := (x : Int) / 4503599627370496 % 2048
def mant (x : Nat) : Int := (x : Int) % 4503599627370496
theorem sgn_quo (x : Nat) (hx : x < 18446744073709551616) : ((x : Int) / 9223372036854775808 == 1) = sgn x := by
  unfold sgn
  by_cases h : x < 9223372036854775808
  · rw [show x / 9223372036854775808 % 2 = 0 by omega, show (x : Int) / 9223372036854775808 = 0 by omega]
    rfl
  · rw [show x / 9223372036854775808 % 2 = 1 by omega, show (x : Int) / 9223372036854775808 = 1 by omega]
    rfl
theorem fields3_any (x : Nat) (hx : x < 18446744073709551616) (w : World) : Calls Tryd.prog 47 #[.int .u64 (x : Int)] w fun e w' => e = .returned (.tuple #[.bool (sgn x), .int .i64 (expo x), .int .u64 (mant x)]) ∧ w' = w := by
  have e := sgn_quo x hx
  have e2 : (x : Int) / 4503599627370496 % 2048 = expo x := rfl
  have e3 : (x : Int) % 4503599627370496 = mant x := rfl
  have b0 : 0 ≤ expo x := by unfold expo; omega
  have b1 : expo x ≤ 2047 := by unfold expo; omega
  go_enter Tryd.func47, Tryd.ntmps47
  go_wp2_with fail
  go_returns
  exact ⟨rfl, rfl⟩
theorem kind_fields (x : Nat) (hx : x < 18446744073709551616) : kindN x = (if (expo x == 2047) && decide (0 < mant x) then 1 else if expo x == 2047 then 2 else if (expo x == 0) && (mant x == 0) then 3 else if expo x == 0 then 4 else 5) ∧ nanB x = ((expo x == 2047) && decide (0 < mant x)) := by
  have hr : ((rung x : Nat) : Int) = expo x * 4503599627370496 + mant x := by unfold rung expo mant; omega
  have m0 : 0 ≤ mant x := by unfold mant; omega
  have m1 : mant x < 4503599627370496 := by unfold mant; omega
  have b0 : 0 ≤ expo x := by unfold expo; omega
  have b1 : expo x ≤ 2047 := by unfold expo; omega
  have hn : nanB x = ((expo x == 2047) && decide (0 < mant x)) := by
    unfold nanB
    by_cases a : expo x = 2047
    · by_cases c : 0 < mant x
      · rw [decide_eq_true (by omega), a, decide_eq_true c]; rfl
      · rw [decide_eq_false (by omega), a, decide_eq_false c]; rfl
    · rw [decide_eq_false (by omega), show (expo x == 2047) = false by simpa using a]; rfl
  refine ⟨?_, hn⟩
  unfold kindN
  rw [hn]
  have hi : ((expo x == 2047) && decide (0 < mant x)) = false → infB x = (expo x == 2047) := fun h => by
    unfold infB
    by_cases a : expo x = 2047
    · rw [a] at h
      have : ¬ 0 < mant x := by simpa using h
      rw [decide_eq_true (by omega), a]; rfl
    · rw [decide_eq_false (by omega), show (expo x == 2047) = false by simpa using a]
  have hz : decide (rung x = 0) = ((expo x == 0) && (mant x == 0)) := by
    by_cases a : expo x = 0
    · by_cases c : mant x = 0
      · rw [decide_eq_true (by omega), a, c]; rfl
      · rw [decide_eq_false (by omega), a, show (mant x == 0) = false by simpa using c]; rfl
    · rw [decide_eq_false (by omega), show (expo x == 0) = false by simpa using a]; rfl
  have hs : decide (rung x < 4503599627370496) = (expo x == 0) := by
    by_cases a : expo x = 0
    · rw [decide_eq_true (by omega), a]; rfl
    · rw [decide_eq_false (by omega), show (expo x == 0) = false by simpa using a]
  rw [hz, hs]
  cases h : ((expo x == 2047) && decide (0 < mant x))
  · rw [hi h]
  · rfl
theorem kind3_any (x : Nat) (hx : x < 18446744073709551616) (w : World) : Calls Tryd.prog 32 #[.int .u64 (x : Int)] w fun e w' => e = .returned (.tuple #[.int .i64 (kindN x), .bool (kindS x)]) ∧ w' = w := by
  obtain ⟨k1, k2⟩ := kind_fields x hx
  have F := Lib.hid (fields3_any x hx)
  have KS : kindS x = if nanB x then false else sgn x := rfl
  rw [k2] at KS
  have KN := Lib.hid k1
  obtain ⟨E, hE⟩ : ∃ E, expo x = E := ⟨_, rfl⟩
  obtain ⟨M, hM⟩ : ∃ M, mant x = M := ⟨_, rfl⟩
  obtain ⟨s, hs⟩ : ∃ s, sgn x = s := ⟨_, rfl⟩
  rw [hE, hM] at KN KS F
  rw [hs] at KS F
  obtain ⟨f1, h1⟩ : ∃ f, (E == 2047) = f := ⟨_, rfl⟩
  obtain ⟨f2, h2⟩ : ∃ f, decide (0 < M) = f := ⟨_, rfl⟩
  obtain ⟨f3, h3⟩ : ∃ f, (E == 0) = f := ⟨_, rfl⟩
  obtain ⟨f4, h4⟩ : ∃ f, (M == 0) = f := ⟨_, rfl⟩
  rw [h1, h2] at KS
  rw [h1, h2, h3, h4] at KN
  have KSH := Lib.hid KS
  clear KS k1 k2 hE hM hs
  cases f1
  · cases f3
    · go_enter Tryd.func32, Tryd.ntmps32
      go_wp2_with fail
      refine (F.out _).mono ?_
      rintro e w1 ⟨rfl, rfl⟩
      go_wp2_with fail
      go_returns
      exact ⟨by rw [KN.out, KSH.out]; rfl, rfl⟩
    · cases f4
      all_goals
        go_enter Tryd.func32, Tryd.ntmps32
        go_wp2_with fail
        refine (F.out _).mono ?_
        rintro e w1 ⟨rfl, rfl⟩
        go_wp2_with fail
        go_returns
        exact ⟨by rw [KN.out, KSH.out]; rfl, rfl⟩
  · cases f2
    all_goals
      go_enter Tryd.func32, Tryd.ntmps32
      go_wp2_with fail
      refine (F.out _).mono ?_
      rintro e w1 ⟨rfl, rfl⟩
      go_wp2_with fail
      go_returns
      exact ⟨by rw [KN.out, KSH.out]; rfl, rfl⟩
end Go.Proofs.YtbolifjkhoiphaaDoor
/- The reference's order of floats. -/
namespace Go.Proofs.YtbolifjkhoiphaaDoor
open Go.RowKit Go.Proofs.Flo
set_option linter.unusedVariables false
set_option linter.unusedSimpArgs false
set_option maxRecDepth 100000
/-- the order of all floats, as the reference tells it -/
def cmpR (x y : Nat) : Int :=
  if nanB x || nanB y then (if nanB x && nanB y then 0 else if nanB x then 1 else -1)
  else if sgn x != sgn y then (if sgn x then -1 else 1)
  else if x < y then (if sgn x then 1 else -1) else if y < x then (if sgn x then -1 else 1) else 0
theorem sgn_word (x : Nat) (hx : x < 18446744073709551616) : x = (if sgn x then 9223372036854775808 else 0) + rung x := by
  unfold sgn rung
  by_cases h : x < 9223372036854775808
  · rw [show x / 9223372036854775808 % 2 = 0 by omega]
    simp; omega
  · rw [show x / 9223372036854775808 % 2 = 1 by omega]
    simp; omega
theorem cmpB_eq (x y : Nat) (hx : x < 18446744073709551616) (hy : y < 18446744073709551616) : cmpB x y = cmpR x y := by
  have wx := sgn_word x hx
  have wy := sgn_word y hy
  unfold cmpB cmpR befB key
  cases nanB x <;> cases nanB y <;> simp only [Bool.or_true, Bool.true_or, Bool.or_false, Bool.and_true, Bool.and_false, if_true, Bool.false_eq_true, if_false, Bool.or_self, Bool.and_self]
  · obtain ⟨r, hr⟩ : ∃ r, rung x = r := ⟨_, rfl⟩
    obtain ⟨q, hq⟩ : ∃ q, rung y = q := ⟨_, rfl⟩
    rw [hr] at wx ⊢
    rw [hq] at wy ⊢
    cases hs : sgn x <;> cases ht : sgn y <;> rw [hs] at wx <;> rw [ht] at wy <;> simp only [sg, if_true, Bool.false_eq_true, if_false, bne_self_eq_false, Bool.true_bne, Bool.false_bne, Bool.not_true, Bool.not_false, Bool.and_true, Bool.and_false, Bool.and_self] at wx wy ⊢
    all_goals
      by_cases c : r = q
      · subst c
        simp <;> omega
      · by_cases d : r < q
        · simp <;> (repeat' split) <;> omega
        · simp <;> (repeat' split) <;> omega
theorem kind_one (x : Nat) : (kindN x == 1) = nanB x := by
  unfold kindN
  cases nanB x
  · simp only [Bool.false_eq_true, if_false]
    split
    · rfl
    · split
      · rfl
      · split <;> rfl
  · rfl
theorem kind_same (x y : Nat) (h : (nanB x || nanB y) = true) : (kindN x == kindN y) = (nanB x && nanB y) := by
  have a := kind_one x
  have b := kind_one y
  cases hx : nanB x <;> cases hy : nanB y
  · rw [hx, hy] at h; cases h
  · rw [hx] at a; rw [hy] at b
    have b' : kindN y = 1 := by simpa using b
    rw [b', a]; rfl
  · rw [hx] at a; rw [hy] at b
    have a' : kindN x = 1 := by simpa using a
    have b' : kindN y ≠ 1 := by simpa using b
    rw [a']
    simp only [Bool.and_false]
    simpa using fun h => b' h.symm
  · rw [hx] at a; rw [hy] at b
    have a' : kindN x = 1 := by simpa using a
    have b' : kindN y = 1 := by simpa using b
    rw [a', b']; rfl
end Go.Proofs.YtbolifjkhoiphaaDoor
/- The order of floats: what RealOrders asks of it. -/
namespace Go.Proofs.YtbolifjkhoiphaaDoor
open Go.Proofs.Flo
set_option linter.unusedVariables false
set_option linter.unusedSimpArgs false
/-- a word's rank in the order of all floats: NaNs behind all -/
def rank (x : Nat) : Int := if nanB x then 9223372036854775808 else if sgn x then -(rung x : Int) - 1 else rung x
theorem rank_lt (x : Nat) (h : nanB x = false) : -9223372036854775808 ≤ rank x ∧ rank x < 9223372036854775808 := by
  have := rung_lt x
  unfold rank
  rw [h]
  simp only [Bool.false_eq_true, if_false]
  split <;> omega
theorem cmpR_rank (x y : Nat) (hx : x < 18446744073709551616) (hy : y < 18446744073709551616) : cmpR x y = if rank x < rank y then -1 else if rank y < rank x then 1 else 0 := by
  have wx := sgn_word x hx
  have wy := sgn_word y hy
  have bx := rung_lt x
  have bY := rung_lt y
  unfold cmpR rank
  cases nanB x <;> cases nanB y <;> simp only [Bool.or_true, Bool.true_or, Bool.or_false, Bool.and_true, Bool.and_false, if_true, Bool.false_eq_true, if_false, Bool.or_self, Bool.and_self]
  · cases hs : sgn x <;> cases ht : sgn y <;> rw [hs] at wx <;> rw [ht] at wy <;> simp only [if_true, Bool.false_eq_true, if_false, bne_self_eq_false, Bool.true_bne, Bool.false_bne, Bool.not_true, Bool.not_false] at wx wy ⊢ <;> (repeat' split) <;> omega
  · have : (if sgn x = true then -(rung x : Int) - 1 else (rung x : Int)) < 9223372036854775808 := by split <;> omega
    rw [if_pos this]
  · have : (if sgn y = true then -(rung y : Int) - 1 else (rung y : Int)) < 9223372036854775808 := by split <;> omega
    rw [if_neg (by omega), if_pos this]
  · simp
theorem rank_same (x y : Nat) (hx : x < 18446744073709551616) (hy : y < 18446744073709551616) : rank x = rank y ↔ (x = y ∨ (nanB x = true ∧ nanB y = true)) := by
  have wx := sgn_word x hx
  have wy := sgn_word y hy
  have bx := rung_lt x
  have bY := rung_lt y
  constructor
  · intro h
    cases nx : nanB x <;> cases ny : nanB y
    · left
      unfold rank at h
      rw [nx, ny] at h
      simp only [Bool.false_eq_true, if_false] at h
      cases hs : sgn x <;> cases ht : sgn y <;> rw [hs] at wx h <;> rw [ht] at wy h <;> simp only [if_true, Bool.false_eq_true, if_false] at wx wy h <;> omega
    · have := rank_lt x nx
      have e : rank y = 9223372036854775808 := by unfold rank; rw [ny]; rfl
      omega
    · have := rank_lt y ny
      have e : rank x = 9223372036854775808 := by unfold rank; rw [nx]; rfl
      omega
    · exact .inr ⟨rfl, rfl⟩
  · rintro (rfl | ⟨a, b⟩)
    · rfl
    · unfold rank; rw [a, b]; rfl
theorem cmpR_anti (x y : Nat) (hx : x < 18446744073709551616) (hy : y < 18446744073709551616) : cmpR x y = -cmpR y x := by
  rw [cmpR_rank x y hx hy, cmpR_rank y x hy hx]
  repeat' split
  all_goals omega
theorem cmpR_self (x : Nat) (hx : x < 18446744073709551616) : cmpR x x = 0 := by
  rw [cmpR_rank x x hx hx, if_neg (by omega), if_neg (by omega)]
theorem cmpR_trans (x y z : Nat) (hx : x < 18446744073709551616) (hy : y < 18446744073709551616) (hz : z < 18446744073709551616) (h : cmpR x y ≤ 0) (k : cmpR y z ≤ 0) : cmpR x z ≤ 0 := by
  rw [cmpR_rank x y hx hy] at h
  rw [cmpR_rank y z hy hz] at k
  rw [cmpR_rank x z hx hz]
  have a : rank x ≤ rank y := by
    by_cases c : rank y < rank x
    · rw [if_neg (by omega), if_pos c] at h; omega
    · omega
  have b : rank y ≤ rank z := by
    by_cases c : rank z < rank y
    · rw [if_neg (by omega), if_pos c] at k; omega
    · omega
  rw [if_neg (show ¬ rank z < rank x by omega)]
  split <;> omega
theorem cmpR_zero (x y : Nat) (hx : x < 18446744073709551616) (hy : y < 18446744073709551616) : (cmpR x y == 0) = ((x == y) || (nanB x && nanB y)) := by
  have h := rank_same x y hx hy
  rw [cmpR_rank x y hx hy]
  by_cases c : rank x = rank y
  · rw [if_neg (by omega), if_neg (by omega)]
    rcases h.1 c with e | ⟨a, b⟩
    · rw [e]; simp
    · rw [a, b]; simp
  · have n := fun e => c (h.2 e)
    have e1 : (x == y) = false := by simpa using fun e => n (.inl e)
    have e2 : (nanB x && nanB y) = false := by
      cases a : nanB x
      · rfl
      · cases b : nanB y
        · rfl
        · exact absurd (.inr ⟨a, b⟩) n
    rw [e1, e2]
    by_cases d : rank x < rank y
    · rw [if_pos d]; rfl
    · rw [if_neg d, if_pos (by omega)]; rfl
end Go.Proofs.YtbolifjkhoiphaaDoor
