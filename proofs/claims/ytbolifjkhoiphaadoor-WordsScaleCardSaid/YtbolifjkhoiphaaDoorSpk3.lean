/- Package real: a float taken apart, in general: whole parts, exponents, trailing zeros. -/
import Derived.Test.YtbolifjkhoiphaaDoorReal
import Derived.Test.YtbolifjkhoiphaaDoorFlor
import Derived.WalkKit
import Derived.WalkSpells
import Derived.WalkLawsBesides
import Derived.Handy
import Derived.Lib.Hide
import Derived.Outline
namespace Go.Proofs.YtbolifjkhoiphaaDoor
open Go.RowKit Go.Proofs.Flo
set_option linter.unusedVariables false
set_option linter.unusedSimpArgs false
set_option maxRecDepth 100000
theorem run_archTrunc (x : Nat) (h : rung x < 9218868437227405312) (w : World) : (callFunc 108 #[.float .f64 x]).run Tryd.prog w = .ok (.value (.float .f64 (Ieee.double.write ((Ieee.double.read x).integral .zero)))) w := by
  obtain ⟨m, k, e, _⟩ := read_num x h
  have a : (callFunc 108 #[.float .f64 x]).run Tryd.prog w = ((do let v ← Extern.MathFloor.toIntegral "math.archTrunc" .zero #[.float .f64 x]; pure (Next.value v) : Sem Next)).run Tryd.prog w := by kernel_rfl
  rw [a]
  have e' : FloatKind.f64.decode x = .number (sgn x) m (Ieee.double.leastPlace + k) := e
  have h2 : Extern.MathFloor.toIntegral "math.archTrunc" .zero #[.float .f64 x] = (match FloatKind.f64.decode x with
      | .nan s t => (if FloatKind.f64.format.quiet t = t then pure (.float .f64 x) else do
          let kept ← choose (.extern "math.Floor,Ceil,Trunc,RoundToEven.signallingNaN kept" 2)
          pure (.float .f64 (if kept == 1 then x else FloatKind.f64.encode (.nan s (FloatKind.f64.format.quiet t)))))
      | d => pure (.float .f64 (FloatKind.f64.encode (d.integral .zero)))) := rfl
  rw [h2, e', e]
  rfl
theorem trunc_any (x : Nat) (h : rung x < 9218868437227405312) (w : World) : Calls Tryd.prog 96 #[.float .f64 x] w fun e w' => e = .returned (.float .f64 (Ieee.double.write ((Ieee.double.read x).integral .zero))) ∧ w' = w := by
  have r := run_archTrunc x h
  obtain ⟨y, hy⟩ : ∃ y, Ieee.double.write ((Ieee.double.read x).integral .zero) = y := ⟨_, rfl⟩
  rw [hy] at r ⊢
  clear hy
  go_enter Tryd.func96, Tryd.ntmps96
  go_wp2_with fail
  go_returns
  exact ⟨rfl, rfl⟩
theorem run_mul (t : TypeId) (x y r : Nat) (h : Ieee.double.mul x y = some r) (w : World) : (binOp BinOp.mul t (.float .f64 x) (.float .f64 y)).run Tryd.prog w = .ok (.float .f64 r) w :=
  run_float_arith w .mul t .f64 x y r h
/-- a word and what it is made normal to -/
structure NormOf (x t u : Nat) : Prop where
  e : mag t = mag (rung x) * 2 ^ u
  t0 : 4503599627370496 ≤ t
  t1 : t < 9218868437227405312
  cs : (4503599627370496 ≤ rung x ∧ u = 0 ∧ t = rung x) ∨ (rung x < 4503599627370496 ∧ u = 52)
theorem norm_ex (x : Nat) (h0 : 0 < rung x) (h : rung x < 9218868437227405312) : ∃ t u, NormOf x t u := by
  by_cases c : rung x < 4503599627370496
  · obtain ⟨t, e, ht⟩ := rung_of (rung x) 52 (by omega) (by decide)
    refine ⟨t, 52, by rw [e, mag_small c], ?_, ht, .inr ⟨c, rfl⟩⟩
    by_cases d : 4503599627370496 ≤ t
    · exact d
    · rw [mag_small (by omega)] at e
      omega
  · exact ⟨rung x, 0, by simp, by omega, h, .inl ⟨by omega, rfl, rfl⟩⟩
theorem nan_num {x : Nat} (h : rung x < 9218868437227405312) : nanB x = false := decide_eq_false (by omega)
theorem inf_num {x : Nat} (h : rung x < 9218868437227405312) : infB x = false := decide_eq_false (by omega)
theorem word_self (x : Nat) (hb : x < 18446744073709551616) : Ieee.double.word (sgn x) (rung x) = x := by
  unfold Ieee.Format.word
  rw [weight]
  unfold sgn rung
  by_cases c : x < 9223372036854775808
  · rw [show x / 9223372036854775808 % 2 = 0 by omega]
    simp only [Nat.reduceBEq, Bool.false_eq_true, if_false]
    omega
  · rw [show x / 9223372036854775808 % 2 = 1 by omega]
    simp only [beq_self_eq_true, if_true]
    omega
theorem normal_any (x t u : Nat) (hx : x < 18446744073709551616) (h0 : 0 < rung x) (h : rung x < 9218868437227405312) (N : NormOf x t u) (w : World) :
    Calls Tryd.prog 114 #[.float .f64 x] w fun e w' => e = .returned (.tuple #[.float .f64 (Ieee.double.word (sgn x) t), .int .i64 (-(u : Int))]) ∧ w' = w := by
  have A := Lib.hid (abs_any x hx)
  have s := small_cmp x (nan_num h)
  rcases N.cs with ⟨c, rfl, rfl⟩ | ⟨c, rfl⟩
  · rw [decide_eq_false (by omega)] at s
    rw [word_self x hx]
    clear N c h0 h
    go_enter Tryd.func114, Tryd.ntmps114
    go_wp2_with fail
    refine (A.out _).mono ?_
    rintro e w1 ⟨rfl, rfl⟩
    go_wp2_with fail
    go_returns
    exact ⟨rfl, rfl⟩
  · rw [decide_eq_true c] at s
    have m := mul_exact x 4841369599423283200 t h (by decide) (by have := N.t0; omega) N.t1 (by
      rw [N.e]
      have q := mag_norm 4503599627370496 1074 (by decide) (by decide)
      rw [show 1074 * 4503599627370496 + 4503599627370496 = rung 4841369599423283200 by decide] at q
      obtain ⟨a, ha⟩ : ∃ a, a = 1074 := ⟨_, rfl⟩
      rw [← ha] at q
      rw [q, U_pow ha, show (4503599627370496 : Nat) = 2 ^ 52 by decide, Nat.mul_assoc])
    rw [show sgn 4841369599423283200 = false by decide, Bool.xor_false] at m
    have r := run_mul 40 _ _ _ m
    clear N c h0 h m
    obtain ⟨y, hy⟩ : ∃ y, Ieee.double.word (sgn x) t = y := ⟨_, rfl⟩
    rw [hy] at r ⊢
    clear hy
    go_enter Tryd.func114, Tryd.ntmps114
    go_wp2_with fail
    refine (A.out _).mono ?_
    rintro e w1 ⟨rfl, rfl⟩
    go_wp2_with fail
    go_returns
    exact ⟨rfl, rfl⟩
/-- the fraction's word -/
def fracW (x t : Nat) : Nat := Ieee.double.word (sgn x) (4602678819172646912 + t % 4503599627370496)
set_option maxHeartbeats 1000000 in
theorem frexp_any (x t u : Nat) (hx : x < 18446744073709551616) (h0 : 0 < rung x) (h : rung x < 9218868437227405312) (N : NormOf x t u) (w : World) :
    Calls Tryd.prog 97 #[.float .f64 x] w fun e w' => e = .returned (.tuple #[.float .f64 (fracW x t), .int .i64 (((t / 4503599627370496 : Nat) : Int) - 1022 - u)]) ∧ w' = w := by
  have H : Hid (∀ w : World, Calls Tryd.prog 111 #[.float .f64 x] w fun e w' => e = .returned (.tuple #[.float .f64 (fracW x t), .int .i64 (((t / 4503599627370496 : Nat) : Int) - 1022 - u)]) ∧ w' = w) := by
    refine Lib.hid fun w => ?_
    have I := Lib.hid (isinf_any x hx)
    have S := Lib.hid (isnan_any x)
    rw [inf_num h] at I
    rw [nan_num h] at S
    have M := Lib.hid (normal_any x t u hx h0 h N)
    have z := zero_cmp x (nan_num h)
    rw [decide_eq_false (by omega)] at z
    obtain ⟨y, hy⟩ : ∃ y, Ieee.double.word (sgn x) t = y := ⟨_, rfl⟩
    have t1 := N.t1
    have t0 := N.t0
    have ub : u ≤ 52 := by rcases N.cs with ⟨_, c, _⟩ | ⟨_, c⟩ <;> omega
    obtain ⟨w1, w2, w3⟩ := word_rung (sgn x) t (by omega)
    rw [hy] at w1 w2 w3 M
    have b1 := bits_exp y w3
    have b2 := bits_half y w3
    rw [w1] at b1 b2
    rw [w2] at b2
    have r := run_bits y
    have q := run_frombits ((Ieee.double.word (sgn x) (4602678819172646912 + t % 4503599627370496) : Nat) : Int)
    obtain ⟨f, hf⟩ : ∃ y, Ieee.double.word (sgn x) (4602678819172646912 + t % 4503599627370496) = y := ⟨_, rfl⟩
    rw [hf] at b2 q
    have FW : Hid (fracW x t = f) := Lib.hid hf
    rw [FW.out]
    obtain ⟨E, hE⟩ : ∃ E, t / 4503599627370496 = E := ⟨_, rfl⟩
    rw [hE] at b1 ⊢
    have E0 : (1 : Int) ≤ (E : Int) := by omega
    have E1 : (E : Int) ≤ 2047 := by omega
    have U0 : (0 : Int) ≤ (u : Int) := by omega
    have U1 : (u : Int) ≤ 52 := by omega
    rw [show (E : Int) - 1022 - u = -(u : Int) + ((E : Int) - 1023 + 1) by omega]
    have b3 : bits BinOp.and IntKind.u64 ((y : Int) / 4503599627370496) 2047 = (E : Int) := by rw [← b1, Int.natCast_ediv]; rfl
    rw [Int.toNat_natCast] at q
    clear hE hf hy N h h0 t0 t1 w1 w2 FW b1 ub
    go_enter Tryd.func111, Tryd.ntmps111
    go_wp2_with fail
    refine (I.out _).mono ?_
    rintro e w1 ⟨rfl, rfl⟩
    go_wp2_with fail
    refine (S.out _).mono ?_
    rintro e w1 ⟨rfl, rfl⟩
    go_wp2_with fail
    refine (M.out _).mono ?_
    rintro e w1 ⟨rfl, rfl⟩
    go_wp2_with fail
    go_returns
    exact ⟨rfl, rfl⟩
  go_enter Tryd.func97, Tryd.ntmps97
  go_wp2_with fail
  refine (H.out _).mono ?_
  rintro e w1 ⟨rfl, rfl⟩
  go_wp2_with fail
  go_returns
  exact ⟨rfl, rfl⟩
/-- the table of trailing zeros, in memory -/
def Deb (w : World) : Prop := ∀ i, i < 64 → w.cell? ⟨4, i, none⟩ = some (.int .u8 (tz64.getD i 0))
theorem Deb.later {w w' : World} (h : Deb w) (hb : Below w.heap.size w w') : Deb w' := fun i hi => cell_later hb (h i hi)
theorem tz_any (X Y : Int) (t : Nat) (ht : t < 64) (X0 : X ≠ 0) (b2 : IntKind.u64.wrap (-X) = Y) (b1 : bits BinOp.and IntKind.u64 X Y = ((2 ^ t : Nat) : Int)) (w : World) (h : Deb w) :
    Calls Tryd.prog 98 #[.int .u64 X] w fun e w' => e = .returned (.int .i64 t) ∧ w' = w := by
  obtain ⟨t1, t2⟩ := tz_table t ht
  obtain ⟨i, hi⟩ : ∃ i, 2 ^ t * 285870213051353865 % 18446744073709551616 / 288230376151711744 = i := ⟨_, rfl⟩
  rw [hi] at t1 t2
  have hc := h i t1
  rw [t2] at hc
  obtain ⟨Q, hQ⟩ : ∃ Q, 2 ^ t * 285870213051353865 % 18446744073709551616 = Q := ⟨_, rfl⟩
  rw [hQ] at hi
  have z : (X == 0) = false := by simpa using X0
  obtain ⟨P, hP⟩ : ∃ P, ((2 ^ t : Nat) : Int) = P := ⟨_, rfl⟩
  have b3 : IntKind.u64.wrap (P * 285870213051353865) = (Q : Int) := by
    rw [IntKind.wrap_u64, ← hP, ← hQ, Int.natCast_emod, Int.natCast_mul]; rfl
  have b4 : (Q : Int) / 288230376151711744 = (i : Int) := by rw [← hi, Int.natCast_ediv]; rfl
  have i1 : (i : Int) < 64 := by omega
  have i0 : (0 : Int) ≤ (i : Int) := by omega
  have t3 : (t : Int) < 64 := by omega
  have t4 : (0 : Int) ≤ (t : Int) := by omega
  rw [hP] at b1
  clear h t1 t2 hi hQ hP X0 ht
  go_enter Tryd.func98, Tryd.ntmps98
  go_wp2_with fail
  go_returns
  exact ⟨rfl, rfl⟩
/-- what a float is: n halved h times, n odd if it is halved at all -/
structure Spl3 (x : Nat) (n : Int) (h : Nat) : Prop where
  e : n * U = sval x * 2 ^ h
  odd : h = 0 ∨ n % 2 = 1
  hh : h ≤ 1126
  n0 : -9223372036854775808 ≤ n
  n1 : n ≤ 9223372036854775807
theorem to_i64 (x : Nat) (n : Int) (h : rung x < 9218868437227405312) (e : sg (sgn x) (mag (rung x) / U) = n) (n0 : -9223372036854775808 ≤ n) (n1 : n ≤ 9223372036854775807) (w : World) : (convert 40 2 (.float .f64 x)).run Tryd.prog w = .ok (.int .i64 n) w := by
  refine run_convert_float_int w 40 2 .f64 .i64 x n (by rw [Tryd.underlying40]; rfl) Tryd.underlying2 ?_
  unfold floatToIntVal
  have a : (FloatKind.f64.decode x).toInt .zero = some n := by
    show (Ieee.double.read x).toInt .zero = some n
    rw [to_int x h, e]
  rw [a]
  show (if -9223372036854775808 ≤ n ∧ n ≤ 9223372036854775807 then some n else none) = some n
  rw [if_pos ⟨n0, n1⟩]
theorem sg_inj {s : Bool} {a b : Nat} (h : sg s a = sg s b) : a = b := by
  unfold sg at h
  cases s <;> simp at h <;> omega
set_option maxHeartbeats 1000000 in
theorem ksplit_any (x : Nat) (hx : x < 18446744073709551616) (h : rung x < 9218868437227405312) (l0 : -(9223372036854775808 * U) ≤ sval x) (l1 : sval x < 9223372036854775808 * U) :
    ∃ (n : Int) (k : Nat), Spl3 x n k ∧ ∀ w, Deb w → Calls Tryd.prog 88 #[.float .f64 x] w fun e w' => e = .returned (.tuple #[.int .i64 n, .int .i64 k]) ∧ w' = w := by
  have T := Lib.hid (trunc_any x h)
  obtain ⟨t', e1, t'1, e2⟩ := trunc_word x h
  rw [e2] at T
  obtain ⟨w1, w2, w3⟩ := word_rung (sgn x) t' (by omega)
  have up := U_pos
  have cmp := (eql_key x (Ieee.double.word (sgn x) t') (nan_num h) (nan_num (by rw [w1]; exact t'1))).1
  have kx : key x = key (Ieee.double.word (sgn x) t') ↔ rung x = t' := by
    unfold key
    rw [w1, w2]
    exact ⟨fun h => sg_inj h, fun h => by rw [h]⟩
  have dv : rung x = t' ↔ U ∣ mag (rung x) := by
    constructor
    · intro c
      rw [← c] at e1
      exact ⟨_, by rw [Nat.mul_comm]; exact e1⟩
    · rintro ⟨q, hq⟩
      refine ((mag_iff _ _).2).1 ?_
      rw [e1, hq, Nat.mul_div_cancel_left _ up, Nat.mul_comm]
  obtain ⟨y, hy⟩ : ∃ y, Ieee.double.word (sgn x) t' = y := ⟨_, rfl⟩
  rw [hy] at T cmp kx
  by_cases dd : U ∣ mag (rung x)
  · rw [decide_eq_true (kx.2 (dv.2 dd))] at cmp
    obtain ⟨q, hq⟩ := dd
    have sv : sval x = sg (sgn x) q * U := by
      unfold sval sg
      rw [hq]
      cases sgn x
      · simp only [Bool.false_eq_true, if_false]; rw [Int.natCast_mul, Int.mul_comm]
      · simp only [if_true]; rw [Int.natCast_mul, Int.neg_mul, Int.mul_comm]
    have b0 : -9223372036854775808 ≤ sg (sgn x) q := by
      rw [sv, ← Int.neg_mul] at l0
      exact Int.le_of_mul_le_mul_right l0 U_int
    have b1 : sg (sgn x) q < 9223372036854775808 := by
      rw [sv] at l1
      exact Int.lt_of_mul_lt_mul_right l1 (Int.le_of_lt U_int)
    refine ⟨sg (sgn x) q, 0, ⟨by rw [sv]; simp, .inl rfl, by decide, b0, by omega⟩, fun w _ => ?_⟩
    have C := to_i64 x (sg (sgn x) q) h (by rw [hq, Nat.mul_div_cancel_left _ up]) b0 (by omega)
    obtain ⟨n, hn⟩ : ∃ n, sg (sgn x) q = n := ⟨_, rfl⟩
    rw [hn] at C ⊢
    clear l0 l1 hn b0 b1 sv hq hy w1 w2 w3 e1 e2 kx dv h up
    go_enter Tryd.func88, Tryd.ntmps88
    go_wp2_with fail
    refine (T.out _).mono ?_
    rintro e w1 ⟨rfl, rfl⟩
    go_wp2_with fail
    go_returns
    exact ⟨rfl, rfl⟩
  · rw [decide_eq_false (fun c => dd (dv.1 (kx.1 c)))] at cmp
    have h0 : 0 < rung x := by
      by_cases c : 0 < rung x
      · exact c
      · exact absurd ⟨0, by rw [show rung x = 0 by omega, mag_zero]; simp⟩ dd
    obtain ⟨t, u, N⟩ := norm_ex x h0 h
    have ub : u ≤ 52 := by rcases N.cs with ⟨_, c, _⟩ | ⟨_, c⟩ <;> omega
    obtain ⟨o, z, k, f1, f2, f3, f4, f5, f6, f7, f8⟩ := split_facts (rung x) t u h0 dd N.e N.t0 ub
    have F := Lib.hid (frexp_any x t u hx h0 h N)
    -- the fraction, times 2^53
    obtain ⟨v1, v2, v3⟩ := word_rung (sgn x) (4602678819172646912 + t % 4503599627370496) (by omega)
    obtain ⟨c, hc⟩ : ∃ c, 4503599627370496 + t % 4503599627370496 = c := ⟨_, rfl⟩
    obtain ⟨mm, mz⟩ := mul_53 c (by omega) (by omega)
    have m := mul_exact (fracW x t) 4845873199050653696 (1074 * 4503599627370496 + c) (by unfold fracW; rw [v1]; omega) (by decide) (by omega) (by omega) (by
      unfold fracW
      rw [v1, show rung 4845873199050653696 = 4845873199050653696 by decide, show 4602678819172646912 + t % 4503599627370496 = 1021 * 4503599627370496 + c by omega]
      exact mm)
    have sf : sgn (fracW x t) = sgn x := v2
    rw [sf, show sgn 4845873199050653696 = false by decide, Bool.xor_false] at m
    have rm := run_mul 40 _ _ _ m
    obtain ⟨z1, z2, z3⟩ := word_rung (sgn x) (1074 * 4503599627370496 + c) (by omega)
    have rc := to_i64 (Ieee.double.word (sgn x) (1074 * 4503599627370496 + c)) (sg (sgn x) c) (by rw [z1]; omega) (by rw [z1, z2, mz, Nat.mul_div_cancel _ up]) (by unfold sg; split <;> omega) (by unfold sg; split <;> omega)
    obtain ⟨zw, hzw⟩ : ∃ z, Ieee.double.word (sgn x) (1074 * 4503599627370496 + c) = z := ⟨_, rfl⟩
    obtain ⟨fw, hfw⟩ : ∃ z, fracW x t = z := ⟨_, rfl⟩
    rw [hzw] at rm rc
    rw [hfw] at rm F
    rw [hc] at f1
    -- the trailing zeros
    have oz : o * 2 ^ z < 18446744073709551616 := by rw [← f1]; omega
    obtain ⟨bl1, bl2⟩ := bits_low o z f2 oz
    rw [← f1] at bl1 bl2
    have Z : ∃ X Y : Int, IntKind.u64.wrap (sg (sgn x) c) = X ∧ X ≠ 0 ∧ IntKind.u64.wrap (-X) = Y ∧ bits BinOp.and IntKind.u64 X Y = ((2 ^ z : Nat) : Int) := by
      have n1 : ((18446744073709551616 - c : Nat) : Int) = 18446744073709551616 - (c : Int) := by omega
      cases sgn x
      · refine ⟨(c : Int), ((18446744073709551616 - c : Nat) : Int), ?_, by omega, ?_, bl1⟩
        · rw [IntKind.wrap_u64]; unfold sg; simp only [Bool.false_eq_true, if_false]; omega
        · rw [IntKind.wrap_u64, n1]; omega
      · refine ⟨((18446744073709551616 - c : Nat) : Int), (c : Int), ?_, by omega, ?_, bl2⟩
        · rw [IntKind.wrap_u64, n1]; unfold sg; simp only [if_true]; omega
        · rw [IntKind.wrap_u64, n1]; omega
    obtain ⟨X, Y, x1, x2, x3, x4⟩ := Z
    have TZ := Lib.hid (fun w h => tz_any X Y z (by omega) x2 x3 x4 w h)
    have C : sg (sgn x) c = sg (sgn x) o * 2 ^ z := by
      rw [f1]
      unfold sg
      cases sgn x
      · simp only [Bool.false_eq_true, if_false]; rw [Int.natCast_mul, Int.natCast_pow]; rfl
      · simp only [if_true]; rw [Int.natCast_mul, Int.natCast_pow, Int.neg_mul]; rfl
    have SQ : Hid (sg (sgn x) c / 2 ^ z = sg (sgn x) o) := Lib.hid (by rw [C, Int.mul_ediv_cancel _ (by have : (0 : Int) < 2 ^ z := Int.pow_pos (by decide); omega)])
    refine ⟨sg (sgn x) o, k, ⟨?_, .inr ?_, f6, by unfold sg; split <;> omega, by unfold sg; split <;> omega⟩, fun w hD => ?_⟩
    · unfold sval sg
      cases sgn x
      · simp only [Bool.false_eq_true, if_false]
        rw [← Int.natCast_mul, f7, Int.natCast_mul, Int.natCast_pow]; rfl
      · simp only [if_true]
        rw [Int.neg_mul, ← Int.natCast_mul, f7, Int.natCast_mul, Int.natCast_pow, Int.neg_mul]; rfl
    · unfold sg
      cases sgn x
      · simp only [Bool.false_eq_true, if_false]; omega
      · simp only [if_true]; omega
    have HD := Lib.hid hD
    obtain ⟨S, hS⟩ : ∃ n, sg (sgn x) c = n := ⟨_, rfl⟩
    obtain ⟨R, hR⟩ : ∃ n, sg (sgn x) o = n := ⟨_, rfl⟩
    have S0 : -9223372036854775808 ≤ S ∧ S ≤ 9223372036854775807 := by rw [← hS]; unfold sg; split <;> omega
    obtain ⟨S0, S1⟩ := S0
    rw [hS] at rc SQ x1
    rw [hR] at SQ ⊢
    obtain ⟨E, hE⟩ : ∃ E, t / 4503599627370496 = E := ⟨_, rfl⟩
    rw [hE] at f4 F
    have E0 : (1 : Int) ≤ (E : Int) := by have := N.t0; omega
    have E1 : (E : Int) ≤ 2047 := by have := N.t1; omega
    have U0 : (0 : Int) ≤ (u : Int) := by omega
    have U1 : (u : Int) ≤ 52 := by omega
    have Z0 : (0 : Int) ≤ (z : Int) := by omega
    have Z1 : (z : Int) ≤ 52 := by omega
    have F4 := Lib.hid f4
    clear hD l0 l1 hS hR hE hzw hfw f1 f2 f3 f4 f5 f6 f7 f8 m mm mz sf z1 z2 z3 v1 v2 v3 oz bl1 bl2 x2 x3 x4 C hc N h0 dd hy w1 w2 w3 e1 e2 kx dv h up ub t'1
    go_enter Tryd.func88, Tryd.ntmps88
    go_wp2_with fail
    refine (T.out _).mono ?_
    rintro e w1 ⟨rfl, rfl⟩
    go_wp2_with fail
    refine (F.out _).mono ?_
    rintro e w1 ⟨rfl, rfl⟩
    go_wp2_with fail
    refine (TZ.out _ HD.out).mono ?_
    rintro e w1 ⟨rfl, rfl⟩
    go_wp2_with fail
    go_returns
    refine ⟨?_, rfl⟩
    rw [F4.out]
    show Ending.returned (.tuple #[.int .i64 (S / 2 ^ z), .int .i64 k]) = _
    rw [SQ.out]
theorem spl_less {n m : Int} {h k : Nat} (e : n * 2 ^ k = m * 2 ^ h) (om : k = 0 ∨ m % 2 = 1) (l : h < k) : False := by
  have p : (0 : Int) < 2 ^ h := Int.pow_pos (by decide)
  have : n * 2 ^ (k - h) = m := by
    refine Int.eq_of_mul_eq_mul_right (by omega) (show n * 2 ^ (k - h) * 2 ^ h = m * 2 ^ h from ?_)
    rw [Int.mul_assoc, ← Int.pow_add, show k - h + h = k by omega, e]
  rw [show k - h = (k - h - 1) + 1 by omega, Int.pow_succ, ← Int.mul_assoc] at this
  omega
theorem spl_uniq {x : Nat} {n m : Int} {h k : Nat} (S : Spl3 x n h) (e : m * U = sval x * 2 ^ k) (o : k = 0 ∨ m % 2 = 1) : n = m ∧ h = k := by
  have c : n * 2 ^ k = m * 2 ^ h := by
    have u := U_int
    refine Int.eq_of_mul_eq_mul_right (show (U : Int) ≠ 0 by omega) ?_
    rw [Int.mul_right_comm, S.e, Int.mul_right_comm m, e, Int.mul_right_comm]
  have : h = k := by
    by_cases a : h < k
    · exact absurd (spl_less c o a) id
    · by_cases b : k < h
      · exact absurd (spl_less c.symm S.odd b) id
      · omega
  subst this
  exact ⟨Int.eq_of_mul_eq_mul_right (by have : (0 : Int) < 2 ^ h := Int.pow_pos (by decide); omega) c, rfl⟩
theorem ksplit_is (x : Nat) (hx : x < 18446744073709551616) (h : rung x < 9218868437227405312) (m : Int) (k : Nat) (m0 : -9223372036854775808 ≤ m) (m1 : m < 9223372036854775808) (e : m * U = sval x * 2 ^ k) (o : k = 0 ∨ m % 2 = 1) :
    ∀ w, Deb w → Calls Tryd.prog 88 #[.float .f64 x] w fun e w' => e = .returned (.tuple #[.int .i64 m, .int .i64 k]) ∧ w' = w := by
  have u := U_int
  have p : (1 : Int) ≤ 2 ^ k := Int.pow_pos (by decide)
  have l0 : -(9223372036854775808 * (U : Int)) ≤ sval x := by
    by_cases c : 0 ≤ sval x
    · omega
    · have := Int.mul_le_mul_of_nonpos_left (show sval x ≤ 0 by omega) p
      have a : -9223372036854775808 * (U : Int) ≤ m * U := Int.mul_le_mul_of_nonneg_right m0 (by omega)
      omega
  have l1 : sval x < 9223372036854775808 * (U : Int) := by
    by_cases c : sval x ≤ 0
    · omega
    · have := Int.mul_le_mul_of_nonneg_left p (show 0 ≤ sval x by omega)
      have a : m * U < 9223372036854775808 * (U : Int) := Int.mul_lt_mul_of_pos_right m1 u
      omega
  obtain ⟨n, h', S, C⟩ := ksplit_any x hx h l0 l1
  obtain ⟨rfl, rfl⟩ := spl_uniq S e o
  exact C
theorem sval_a : 3 * (U : Int) = sval 4609434218613702656 * 2 ^ 1 := by
  obtain ⟨b, hb⟩ : ∃ a, a = 1022 := ⟨_, rfl⟩
  have m := mag_norm 6755399441055744 b (by decide) (by decide)
  have r : rung 4609434218613702656 = b * 4503599627370496 + 6755399441055744 := by
    rw [show rung 4609434218613702656 = 4609434218613702656 by decide]; omega
  unfold sval
  rw [show sgn 4609434218613702656 = false by decide, r, m, U_pow (show b + 52 = 1074 by omega), Nat.pow_add]
  unfold sg
  simp only [Bool.false_eq_true, if_false]
  generalize 2 ^ b = q
  omega
theorem sval_b : -3 * (U : Int) = sval 13828302655841107968 * 2 ^ 2 := by
  obtain ⟨b, hb⟩ : ∃ a, a = 1021 := ⟨_, rfl⟩
  have m := mag_norm 6755399441055744 b (by decide) (by decide)
  have r : rung 13828302655841107968 = b * 4503599627370496 + 6755399441055744 := by
    rw [show rung 13828302655841107968 = 4604930618986332160 by decide]; omega
  unfold sval
  rw [show sgn 13828302655841107968 = true by decide, r, m, U_pow (show b + 53 = 1074 by omega), Nat.pow_add]
  unfold sg
  simp only [if_true]
  generalize 2 ^ b = q
  omega
theorem split_a (w : World) (h : Deb w) : Calls Tryd.prog 88 #[.float .f64 4609434218613702656] w fun e w' => e = .returned (.tuple #[.int .i64 3, .int .i64 1]) ∧ w' = w :=
  ksplit_is _ (by decide) (by decide) 3 1 (by decide) (by decide) sval_a (.inr rfl) w h
theorem split_b (w : World) (h : Deb w) : Calls Tryd.prog 88 #[.float .f64 13828302655841107968] w fun e w' => e = .returned (.tuple #[.int .i64 (-3), .int .i64 2]) ∧ w' = w :=
  ksplit_is _ (by decide) (by decide) (-3) 2 (by decide) (by decide) sval_b (.inr rfl) w h
end Go.Proofs.YtbolifjkhoiphaaDoor
