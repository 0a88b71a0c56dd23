/- Package real and the reference's: kinds and order of floats. -/
import Derived.Test.YtlkpegfbnmecpaaDoorProg
import Derived.Test.YtlkpegfbnmecpaaDoorFlo
import Derived.WalkKit
import Derived.WalkSpells
import Derived.WalkLawsBesides
import Derived.Handy
import Derived.Lib.Hide
import Derived.Outline
namespace Go.Proofs.YtlkpegfbnmecpaaDoor
open Go.RowKit Go.Proofs.Flo
set_option linter.unusedVariables false
set_option linter.unusedSimpArgs false
set_option maxRecDepth 100000
theorem run_fcmp (t : TypeId) (x y : Nat) (w : World) :
    (binOp .eql t (.float .f64 x) (.float .f64 y)).run Tryd.prog w = .ok (.bool (Ieee.double.order x y == some .eq)) w ∧
    (binOp .neq t (.float .f64 x) (.float .f64 y)).run Tryd.prog w = .ok (.bool (Ieee.double.order x y != some .eq)) w ∧
    (binOp .lss t (.float .f64 x) (.float .f64 y)).run Tryd.prog w = .ok (.bool (Ieee.double.order x y == some .lt)) w ∧
    (binOp .gtr t (.float .f64 x) (.float .f64 y)).run Tryd.prog w = .ok (.bool (Ieee.double.order x y == some .gt)) w :=
  ⟨rfl, rfl, rfl, rfl⟩
theorem cmp_self (x : Int) : compare x x = .eq := by
  show compareOfLessAndEq x x = _
  unfold compareOfLessAndEq
  rw [if_neg (by omega), if_pos rfl]
theorem neq_self (x : Nat) : (FloatKind.f64.format.order x x != some Ordering.eq) = nanB x := by
  show (Ieee.double.order x x != some Ordering.eq) = nanB x
  cases h : nanB x
  · rw [order_key x x h h, cmp_self]; rfl
  · rw [order_nan x x (.inl h)]; rfl
theorem isnan_any (x : Nat) (w : World) : Calls Tryd.prog 30 #[.float .f64 x] w fun e w' => e = .returned (.bool (nanB x)) ∧ w' = w := by
  have e := neq_self x
  go_enter Tryd.func30, Tryd.ntmps30
  go_wp2_with fail
  go_returns
  exact ⟨rfl, rfl⟩
theorem run_bits (x : Nat) (w : World) : (callFunc 21 #[.float .f64 x]).run Tryd.prog w = .ok (.value (.int .u64 x)) w := by kernel_rfl
theorem run_frombits (x : Int) (w : World) : (callFunc 12 #[.int .u64 x]).run Tryd.prog w = .ok (.value (.float .f64 x.toNat)) w := by kernel_rfl
theorem sgn_wrap (x : Nat) (hx : x < 18446744073709551616) : decide (wrap64 (x : Int) < 0) = sgn x := by
  unfold sgn
  by_cases h : x < 9223372036854775808
  · rw [show x / 9223372036854775808 % 2 = 0 by omega]
    simp only [wrap64]
    exact decide_eq_false (by omega)
  · rw [show x / 9223372036854775808 % 2 = 1 by omega]
    simp only [wrap64]
    exact decide_eq_true (by omega)
theorem signbit_any (x : Nat) (hx : x < 18446744073709551616) (w : World) : Calls Tryd.prog 29 #[.float .f64 x] w fun e w' => e = .returned (.bool (sgn x)) ∧ w' = w := by
  have e := sgn_wrap x hx
  have r := run_bits x
  go_enter Tryd.func29, Tryd.ntmps29
  go_wp2_with fail
  go_returns
  exact ⟨rfl, rfl⟩
/-- does a word come before another one in the order of all floats? -/
def befB (x y : Nat) : Bool := if nanB x then false else if nanB y then true else if key x = key y then sgn x && !sgn y else decide (key x < key y)
theorem eql_key (x y : Nat) (hx : nanB x = false) (hy : nanB y = false) : (FloatKind.f64.format.order x y == some Ordering.eq) = decide (key x = key y) ∧ (FloatKind.f64.format.order x y == some Ordering.lt) = decide (key x < key y) ∧ (FloatKind.f64.format.order x y == some Ordering.gt) = decide (key y < key x) := by
  have e : FloatKind.f64.format.order x y = some (compare (key x) (key y)) := order_key x y hx hy
  rw [e]
  by_cases a : key x < key y
  · rw [cmp_lt a, decide_eq_true a, decide_eq_false (by omega), decide_eq_false (by omega)]; exact ⟨rfl, rfl, rfl⟩
  · by_cases b : key y < key x
    · rw [cmp_gt b, decide_eq_false a, decide_eq_true b, decide_eq_false (by omega)]; exact ⟨rfl, rfl, rfl⟩
    · have c : key x = key y := by omega
      rw [c, cmp_self, decide_eq_true rfl, decide_eq_false (by omega)]; exact ⟨rfl, rfl, rfl⟩
theorem before_any (x y : Nat) (hx : x < 18446744073709551616) (hy : y < 18446744073709551616) (w : World) : Calls Tryd.prog 34 #[.float .f64 x, .float .f64 y] w fun e w' => e = .returned (.bool (befB x y)) ∧ w' = w := by
  cases a : nanB x
  · cases b : nanB y
    · obtain ⟨e1, e2, _⟩ := eql_key x y a b
      have BF : Hid (befB x y = if key x = key y then sgn x && !sgn y else decide (key x < key y)) := Lib.hid (by unfold befB; rw [a, b]; rfl)
      obtain ⟨f1, hf1⟩ : ∃ f, decide (key x = key y) = f := ⟨_, rfl⟩
      obtain ⟨f2, hf2⟩ : ∃ f, decide (key x < key y) = f := ⟨_, rfl⟩
      obtain ⟨s1, hs1⟩ : ∃ f, sgn x = f := ⟨_, rfl⟩
      obtain ⟨s2, hs2⟩ : ∃ f, sgn y = f := ⟨_, rfl⟩
      rw [hf1] at e1
      rw [hf2] at e2
      have N1 := Lib.hid (isnan_any x)
      have N2 := Lib.hid (isnan_any y)
      have S1 := Lib.hid (signbit_any x hx)
      have S2 := Lib.hid (signbit_any y hy)
      rw [a] at N1
      rw [b] at N2
      rw [hs1] at S1
      rw [hs2] at S2
      have HF1 := Lib.hid hf1
      have HF2 := Lib.hid hf2
      have HS1 := Lib.hid hs1
      have HS2 := Lib.hid hs2
      clear a b hf1 hf2 hs1 hs2
      go_enter Tryd.func34, Tryd.ntmps34
      go_wp2_with fail
      refine (N1.out _).mono ?_
      rintro e w1 ⟨rfl, rfl⟩
      go_wp2_with fail
      refine (N2.out _).mono ?_
      rintro e w2 ⟨rfl, rfl⟩
      cases f1
      · go_wp2_with fail
        go_returns
        refine ⟨?_, rfl⟩
        rw [BF.out, if_neg (of_decide_eq_false HF1.out), HF2.out]
        rfl
      · go_wp2_with fail
        refine (S1.out _).mono ?_
        rintro e w3 ⟨rfl, rfl⟩
        cases s1
        · go_wp2_with fail
          go_returns
          refine ⟨?_, rfl⟩
          rw [BF.out, if_pos (of_decide_eq_true HF1.out), HS1.out]
          rfl
        · go_wp2_with fail
          refine (S2.out _).mono ?_
          rintro e w4 ⟨rfl, rfl⟩
          go_wp2_with fail
          go_returns
          refine ⟨?_, rfl⟩
          rw [BF.out, if_pos (of_decide_eq_true HF1.out), HS1.out, HS2.out]
          rfl
    · have BF : Hid (befB x y = true) := Lib.hid (by unfold befB; rw [a, b]; rfl)
      have N1 := Lib.hid (isnan_any x)
      have N2 := Lib.hid (isnan_any y)
      rw [a] at N1
      rw [b] at N2
      clear a b
      go_enter Tryd.func34, Tryd.ntmps34
      go_wp2_with fail
      refine (N1.out _).mono ?_
      rintro e w1 ⟨rfl, rfl⟩
      go_wp2_with fail
      refine (N2.out _).mono ?_
      rintro e w2 ⟨rfl, rfl⟩
      go_wp2_with fail
      go_returns
      exact ⟨by rw [BF.out]; rfl, rfl⟩
  · have BF : Hid (befB x y = false) := Lib.hid (by unfold befB; rw [a]; rfl)
    have N1 := Lib.hid (isnan_any x)
    rw [a] at N1
    clear a
    go_enter Tryd.func34, Tryd.ntmps34
    go_wp2_with fail
    refine (N1.out _).mono ?_
    rintro e w1 ⟨rfl, rfl⟩
    go_wp2_with fail
    go_returns
    exact ⟨by rw [BF.out]; rfl, rfl⟩
/-- the order of all floats -/
def cmpB (x y : Nat) : Int := if befB x y then -1 else if befB y x then 1 else 0
theorem kcmp_any (x y : Nat) (hx : x < 18446744073709551616) (hy : y < 18446744073709551616) (w : World) : Calls Tryd.prog 14 #[.float .f64 x, .float .f64 y] w fun e w' => e = .returned (.int .i64 (cmpB x y)) ∧ w' = w := by
  have B1 := Lib.hid (before_any x y hx hy)
  have B2 := Lib.hid (before_any y x hy hx)
  have CB : Hid (cmpB x y = if befB x y then -1 else if befB y x then 1 else 0) := Lib.hid rfl
  obtain ⟨f1, hf1⟩ : ∃ f, befB x y = f := ⟨_, rfl⟩
  obtain ⟨f2, hf2⟩ : ∃ f, befB y x = f := ⟨_, rfl⟩
  rw [hf1] at B1 CB
  rw [hf2] at B2 CB
  clear hf1 hf2
  go_enter Tryd.func14, Tryd.ntmps14
  go_wp2_with fail
  refine (B1.out _).mono ?_
  rintro e w1 ⟨rfl, rfl⟩
  cases f1
  · go_wp2_with fail
    refine (B2.out _).mono ?_
    rintro e w2 ⟨rfl, rfl⟩
    cases f2
    all_goals
      go_wp2_with fail
      go_returns
      exact ⟨by rw [CB.out]; rfl, rfl⟩
  · go_wp2_with fail
    go_returns
    exact ⟨by rw [CB.out]; rfl, rfl⟩
theorem abs_bits (x : Nat) (hx : x < 18446744073709551616) : (bits .andNot .u64 (x : Int) 9223372036854775808).toNat = rung x := by
  have e : BitVec.ofInt 64 (x : Int) &&& ~~~ (BitVec.ofInt 64 9223372036854775808) = BitVec.ofNat 64 (x % 9223372036854775808) := by
    apply BitVec.eq_of_toNat_eq
    rw [BitVec.toNat_and]
    have h1 : (BitVec.ofInt 64 (x : Int)).toNat = x := by simp; omega
    have h2 : (~~~ (BitVec.ofInt 64 9223372036854775808)).toNat = 2 ^ 63 - 1 := by decide
    rw [h1, h2, Nat.and_two_pow_sub_one_eq_mod]
    simp; omega
  show (IntKind.u64.wrap ((BitVec.ofInt 64 (x : Int) &&& ~~~ (BitVec.ofInt 64 9223372036854775808)).toNat : Int)).toNat = _
  rw [e, IntKind.wrap_u64]
  unfold rung
  simp; omega
theorem abs_any (x : Nat) (hx : x < 18446744073709551616) (w : World) : Calls Tryd.prog 32 #[.float .f64 x] w fun e w' => e = .returned (.float .f64 (rung x)) ∧ w' = w := by
  have r := run_bits x
  have q := run_frombits
  have e := abs_bits x hx
  go_enter Tryd.func32, Tryd.ntmps32
  go_wp2_with fail
  go_returns
  exact ⟨rfl, rfl⟩
theorem rung_lt (x : Nat) : rung x < 9223372036854775808 := Nat.mod_lt _ (by decide)
theorem rung_rung (x : Nat) : rung (rung x) = rung x := Nat.mod_eq_of_lt (rung_lt x)
theorem sgn_rung (x : Nat) : sgn (rung x) = false := by
  unfold sgn
  rw [Nat.div_eq_of_lt (rung_lt x)]
  rfl
theorem key_rung (x : Nat) : key (rung x) = rung x := by
  unfold key
  rw [sgn_rung, rung_rung]
  rfl
theorem nan_rung (x : Nat) : nanB (rung x) = nanB x := by unfold nanB; rw [rung_rung]
def infB (x : Nat) : Bool := decide (rung x = 9218868437227405312)
theorem inf_cmp (x : Nat) : (FloatKind.f64.format.order (rung x) 9218868437227405311 == some Ordering.gt) = infB x := by
  cases h : nanB x
  · rw [(eql_key (rung x) 9218868437227405311 (by rw [nan_rung]; exact h) (by decide)).2.2, key_rung, show key 9218868437227405311 = 9218868437227405311 from by decide]
    have := of_decide_eq_false h
    unfold infB
    by_cases c : rung x = 9218868437227405312
    · rw [decide_eq_true c, decide_eq_true (by omega)]
    · rw [decide_eq_false c, decide_eq_false (by omega)]
  · have e : FloatKind.f64.format.order (rung x) 9218868437227405311 = none := order_nan _ _ (.inl (by rw [nan_rung]; exact h))
    have := of_decide_eq_true h
    rw [e]
    unfold infB
    rw [decide_eq_false (by omega)]
    rfl
theorem isinf_any (x : Nat) (hx : x < 18446744073709551616) (w : World) : Calls Tryd.prog 31 #[.float .f64 x, .int .i64 0] w fun e w' => e = .returned (.bool (infB x)) ∧ w' = w := by
  have A := Lib.hid (abs_any x hx)
  have e := inf_cmp x
  go_enter Tryd.func31, Tryd.ntmps31
  go_wp2_with fail
  refine (A.out _).mono ?_
  rintro e w1 ⟨rfl, rfl⟩
  go_wp2_with fail
  go_returns
  exact ⟨rfl, rfl⟩
theorem zero_cmp (x : Nat) (h : nanB x = false) : (FloatKind.f64.format.order x 0 == some Ordering.eq) = decide (rung x = 0) := by
  rw [(eql_key x 0 h (by decide)).1, show key 0 = 0 from by decide]
  unfold key
  cases sgn x <;> simp only [sg, if_true, Bool.false_eq_true, if_false] <;> (by_cases c : rung x = 0 <;> simp [c])
theorem small_cmp (x : Nat) (h : nanB x = false) : (FloatKind.f64.format.order (rung x) 4503599627370496 == some Ordering.lt) = decide (rung x < 4503599627370496) := by
  rw [(eql_key (rung x) 4503599627370496 (by rw [nan_rung]; exact h) (by decide)).2.1, key_rung, show key 4503599627370496 = 4503599627370496 from by decide]
  by_cases c : rung x < 4503599627370496
  · rw [decide_eq_true c, decide_eq_true (by omega)]
  · rw [decide_eq_false c, decide_eq_false (by omega)]
/-- the kind, and whether the sign is minus -/
def kindN (x : Nat) : Int := if nanB x then 1 else if infB x then 2 else if decide (rung x = 0) then 3 else if decide (rung x < 4503599627370496) then 4 else 5
def kindS (x : Nat) : Bool := if nanB x then false else sgn x
theorem kkind_any (x : Nat) (hx : x < 18446744073709551616) (w : World) : Calls Tryd.prog 11 #[.float .f64 x] w fun e w' => e = .returned (.tuple #[.int .i64 (kindN x), .bool (kindS x)]) ∧ w' = w := by
  have A := Lib.hid (abs_any x hx)
  have N := Lib.hid (isnan_any x)
  have S := Lib.hid (signbit_any x hx)
  have I := Lib.hid (isinf_any x hx)
  have KN : Hid (kindN x = if nanB x then 1 else if infB x then 2 else if decide (rung x = 0) then 3 else if decide (rung x < 4503599627370496) then 4 else 5) := Lib.hid rfl
  have KS : Hid (kindS x = if nanB x then false else sgn x) := Lib.hid rfl
  have z1 := zero_cmp x
  have z2 := small_cmp x
  obtain ⟨f1, h1⟩ : ∃ f, nanB x = f := ⟨_, rfl⟩
  obtain ⟨f2, h2⟩ : ∃ f, infB x = f := ⟨_, rfl⟩
  obtain ⟨f3, h3⟩ : ∃ f, decide (rung x = 0) = f := ⟨_, rfl⟩
  obtain ⟨f4, h4⟩ : ∃ f, decide (rung x < 4503599627370496) = f := ⟨_, rfl⟩
  obtain ⟨f5, h5⟩ : ∃ f, sgn x = f := ⟨_, rfl⟩
  rw [h1] at N z1 z2
  rw [h2] at I
  rw [h3] at z1
  rw [h4] at z2
  rw [h5] at S
  rw [h1, h2, h3, h4] at KN
  rw [h1, h5] at KS
  clear h1 h2 h3 h4 h5
  cases f1
  · have y1 := z1 rfl
    have y2 := z2 rfl
    clear z1 z2
    go_enter Tryd.func11, Tryd.ntmps11
    go_wp2_with fail
    refine (S.out _).mono ?_
    rintro e w1 ⟨rfl, rfl⟩
    go_wp2_with fail
    refine (N.out _).mono ?_
    rintro e w1 ⟨rfl, rfl⟩
    go_wp2_with fail
    refine (I.out _).mono ?_
    rintro e w1 ⟨rfl, rfl⟩
    cases f2
    · cases f3
      · go_wp2_with fail
        refine (A.out _).mono ?_
        rintro e w1 ⟨rfl, rfl⟩
        cases f4
        all_goals
          go_wp2_with fail
          go_returns
          exact ⟨by rw [KN.out, KS.out]; rfl, rfl⟩
      · go_wp2_with fail
        go_returns
        exact ⟨by rw [KN.out, KS.out]; rfl, rfl⟩
    · go_wp2_with fail
      go_returns
      exact ⟨by rw [KN.out, KS.out]; rfl, rfl⟩
  · clear z1 z2
    go_enter Tryd.func11, Tryd.ntmps11
    go_wp2_with fail
    refine (S.out _).mono ?_
    rintro e w1 ⟨rfl, rfl⟩
    go_wp2_with fail
    refine (N.out _).mono ?_
    rintro e w1 ⟨rfl, rfl⟩
    go_wp2_with fail
    go_returns
    exact ⟨by rw [KN.out, KS.out]; rfl, rfl⟩
end Go.Proofs.YtlkpegfbnmecpaaDoor
