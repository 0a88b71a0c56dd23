/- Package real: the nearest float, in general. -/
import Derived.Test.YtdccoebjcaemcaaRRRDoorSpk3
import Derived.Test.YtdccoebjcaemcaaRRRDoorFlon
import Derived.Test.YtdccoebjcaemcaaRRRDoorRatioB
import Derived.Test.YtdccoebjcaemcaaRRRDoorDiv64
import Derived.Test.YtdccoebjcaemcaaRRRDoorGrid
import Derived.WalkKit
import Derived.WalkSpells
import Derived.WalkLawsBesides
import Derived.Handy
import Derived.Lib.Hide
import Derived.Deep.QuietTactic
import Derived.BigQuiet
import Derived.LoopTactic
import Derived.Outline
namespace Go.Proofs.YtdccoebjcaemcaaRRRDoor
open Go.RowKit Go.Proofs.Flo Go.Proofs.Reg
set_option linter.unusedVariables false
set_option linter.unusedSimpArgs false
set_option maxRecDepth 100000
theorem word_pos (t : Nat) : Ieee.double.word false t = t := rfl
theorem bits_i64 (E : Nat) (h : E ≤ 2047) : bits .and .i64 (E : Int) 2047 = (E : Int) := by
  show IntKind.i64.wrap ((BitVec.ofInt 64 (E : Int) &&& BitVec.ofInt 64 2047).toNat : Int) = _
  have e : (BitVec.ofInt 64 (2047 : Int)).toNat = 2047 := by decide
  rw [BitVec.toNat_and, bv_nat E (by omega), e, show (2047 : Nat) = 2 ^ 11 - 1 by decide, Nat.and_two_pow_sub_one_eq_mod, IntKind.wrap_i64]
  omega
set_option maxHeartbeats 1000000 in
theorem ldexp_pos (t e' : Nat) (k : Int) (h0 : 4503599627370496 ≤ t) (h1 : t < 9218868437227405312) (hk : k = (e' : Int) - (t / 4503599627370496 : Nat)) (e0 : 1 ≤ e') (e1 : e' ≤ 2046) (w : World) :
    Calls Tryd.prog 57 #[.float .f64 t, .int .i64 k] w fun e w' => e = .returned (.float .f64 (e' * 4503599627370496 + t % 4503599627370496)) ∧ w' = w := by
  have tb : t < 18446744073709551616 := by omega
  have rt : rung t = t := Nat.mod_eq_of_lt (by omega)
  have st : sgn t = false := by unfold sgn; rw [show t / 9223372036854775808 % 2 = 0 by omega]; rfl
  have H : Hid (∀ w : World, Calls Tryd.prog 71 #[.float .f64 t, .int .i64 k] w fun e w' => e = .returned (.float .f64 (e' * 4503599627370496 + t % 4503599627370496)) ∧ w' = w) := by
    refine Lib.hid fun w => ?_
    have I := Lib.hid (isinf_any t tb)
    have S := Lib.hid (isnan_any t)
    rw [inf_num (by rw [rt]; exact h1)] at I
    rw [nan_num (by rw [rt]; exact h1)] at S
    have M : Hid (∀ w : World, Calls Tryd.prog 76 #[.float .f64 t] w fun e w' => e = .returned (.tuple #[.float .f64 t, .int .i64 0]) ∧ w' = w) := Lib.hid fun w => by
      have := normal_any t t 0 tb (by rw [rt]; omega) (by rw [rt]; exact h1) ⟨by rw [rt]; simp, h0, h1, .inl ⟨by rw [rt]; exact h0, rfl, rt.symm⟩⟩ w
      rw [st, word_pos] at this
      exact this
    have z := zero_cmp t (nan_num (by rw [rt]; exact h1))
    rw [rt, decide_eq_false (by omega)] at z
    have r := run_bits t
    have e1' : (t : Int) / 4503599627370496 = ((t / 4503599627370496 : Nat) : Int) := by rw [Int.natCast_ediv]; rfl
    have b2 := bits_put t e' tb (by omega)
    rw [st, rt, word_pos] at b2
    obtain ⟨F, hF⟩ : ∃ F, e' * 4503599627370496 + t % 4503599627370496 = F := ⟨_, rfl⟩
    have mo := mul_one F (by omega) (by rw [show rung F = F from Nat.mod_eq_of_lt (by omega)]; omega) (by rw [show rung F = F from Nat.mod_eq_of_lt (by omega)]; omega)
    have rm := run_mul 29 _ _ _ mo
    rw [hF] at b2 ⊢
    have q := run_frombits ((F : Nat) : Int)
    rw [Int.toNat_natCast] at q
    obtain ⟨E, hE⟩ : ∃ E, t / 4503599627370496 = E := ⟨_, rfl⟩
    rw [hE] at e1' hk
    have bi := bits_i64 E (by omega)
    have E0 : (1 : Int) ≤ (E : Int) := by omega
    have E1 : (E : Int) ≤ 2047 := by omega
    obtain ⟨m, hm⟩ : ∃ m : Int, k + ((E : Int) - 1023) = m := ⟨_, rfl⟩
    have m2 : m + 1023 = (e' : Int) := by omega
    have m0 : -1022 ≤ m := by omega
    have m1 : m ≤ 1023 := by omega
    have P0 : (0 : Int) ≤ (e' : Int) := by omega
    have P1 : (e' : Int) ≤ 2046 := by omega
    have k0 : -3000 ≤ k := by omega
    have k1 : k ≤ 3000 := by omega
    obtain ⟨Q, hQ⟩ : ∃ Q : Int, ((e' * 4503599627370496 : Nat) : Int) = Q := ⟨_, rfl⟩
    have b3 : IntKind.u64.wrap ((e' : Int) * 4503599627370496) = Q := by rw [IntKind.wrap_u64, ← hQ]; omega
    rw [hQ] at b2
    clear hk hE hF hQ rt st tb h0 h1 e0 e1
    go_enter Tryd.func71, Tryd.ntmps71
    go_wp2_with fail
    refine (I.out _).mono ?_
    rintro e w1 ⟨rfl, rfl⟩
    go_wp2_with fail
    refine (S.out _).mono ?_
    rintro e w1 ⟨rfl, rfl⟩
    go_wp2_with fail
    refine (M.out _).mono ?_
    rintro e w1 ⟨rfl, rfl⟩
    go_wp2_with fail
    go_returns
    exact ⟨rfl, rfl⟩
  clear hk h0 h1 e0 e1 rt st tb
  go_enter Tryd.func57, Tryd.ntmps57
  go_wp2_with fail
  refine (H.out _).mono ?_
  rintro e w1 ⟨rfl, rfl⟩
  go_wp2_with fail
  go_returns
  exact ⟨rfl, rfl⟩
theorem run_i64_float (n : Int) (x : Nat) (e : Ieee.double.write (.number (n < 0) n.natAbs 0) = x) (w : World) : (convert 2 29 (.int .i64 n)).run Tryd.prog w = .ok (.float .f64 x) w := by
  rw [← e]
  kernel_rfl
theorem quo_exp (k c j l r : Nat) (hk : k = 9 ∨ k = 10) (c0 : 4503599627370496 ≤ c) (c1 : c ≤ 9007199254740992) (hj : j + 62 + l = k + 1074 + r) (hl : l ≤ 63) (hr : r ≤ 63) :
    ∃ F e' : Nat, (k + 1074) * 4503599627370496 + c = F ∧ 4503599627370496 ≤ F ∧ F < 9218868437227405312 ∧ (r : Int) - l - 62 = (e' : Int) - (F / 4503599627370496 : Nat) ∧ 1 ≤ e' ∧ e' ≤ 2046 ∧ e' * 4503599627370496 + F % 4503599627370496 = j * 4503599627370496 + c ∧ 4503599627370496 ≤ j * 4503599627370496 + c ∧ j * 4503599627370496 + c < 4953959590107545600 := by
  refine ⟨_, (((((k + 1074) * 4503599627370496 + c) / 4503599627370496 : Nat) : Int) + ((r : Int) - l - 62)).toNat, rfl, ?_, ?_, ?_, ?_, ?_, ?_, ?_, ?_⟩
  all_goals omega
set_option maxHeartbeats 2000000 in
theorem kquot_pos (n d : Nat) (n0 : 0 < n) (n1 : n ≤ 9223372036854775808) (d0 : 0 < d) (d1 : d < 9223372036854775808) : ∃ g, NearB g n d ∧ 4503599627370496 ≤ g ∧ g < 4953959590107545600 ∧ ∀ w : World,
    Calls Tryd.prog 35 #[.int .u64 n, .int .u64 d] w fun e w' => e = .returned (.float .f64 g) ∧ Below w.heap.size w w' := by
  obtain ⟨l, l1, l2, l3, l4⟩ := Go.Proofs.Num.norm_shift (n : Int) (by omega) (by omega)
  obtain ⟨r, r1, r2, r3, r4⟩ := Go.Proofs.Num.norm_shift (d : Int) (by omega) (by omega)
  have A := Lib.hid (fun w => Tryd.bits_LeadingZeros64 n w (by omega) (by omega))
  have B := Lib.hid (fun w => Tryd.bits_LeadingZeros64 d w (by omega) (by omega))
  rw [l1] at A
  rw [r1] at B
  have cl : (n : Int) * 2 ^ l = ((n * 2 ^ l : Nat) : Int) := by rw [Int.natCast_mul, Int.natCast_pow]; rfl
  have cr : (d : Int) * 2 ^ r = ((d * 2 ^ r : Nat) : Int) := by rw [Int.natCast_mul, Int.natCast_pow]; rfl
  rw [cl] at l3 l4
  rw [cr] at r3 r4
  obtain ⟨q, c, k, j, hq, q0, q1, hk, hn, c0, c1, hj, NB⟩ := quo_near n d l r false n0 d0 l2 r2 (by omega) (by omega) (by omega) (by omega)
  obtain ⟨X, hX⟩ : ∃ X, n * 2 ^ l = X := ⟨_, rfl⟩
  obtain ⟨Y, hY⟩ : ∃ X, d * 2 ^ r = X := ⟨_, rfl⟩
  rw [hX] at cl l3 l4 hq
  rw [hY] at cr r3 r4 hq
  obtain ⟨F, e', hF, f0, f1, f2, f3, f4, f5, f6, f7⟩ := quo_exp k c j l r hk c0 c1 hj l2 r2
  have LD := Lib.hid (ldexp_pos F e' ((r : Int) - l - 62) f0 f1 f2 f3 f4)
  rw [f5] at LD
  rw [hF] at hn
  clear f0 f1 f2 f3 f4 f5 hj hk c0 c1 hF
  refine ⟨j * 4503599627370496 + c, NB, f6, f7, fun w => ?_⟩
  obtain ⟨g, hg⟩ : ∃ g, j * 4503599627370496 + c = g := ⟨_, rfl⟩
  rw [hg] at LD ⊢
  have wn : IntKind.u64.wrap ((n : Int) * 2 ^ l) = (X : Int) := by rw [cl, IntKind.wrap_u64]; omega
  have wd : IntKind.u64.wrap ((d : Int) * 2 ^ r) = (Y : Int) := by rw [cr, IntKind.wrap_u64]; omega
  obtain ⟨H, hH⟩ : ∃ H : Int, (X : Int) / 4 = H := ⟨_, rfl⟩
  obtain ⟨O, hO⟩ : ∃ O : Int, IntKind.u64.wrap ((X : Int) * 4611686018427387904) = O := ⟨_, rfl⟩
  have hO' := hO
  rw [IntKind.wrap_u64] at hO'
  have sum : H * 18446744073709551616 + O = ((X * 4611686018427387904 : Nat) : Int) := by omega
  have DV := Lib.hid (div64_any H O Y (by omega) (by omega) (by omega) (by omega) (by omega))
  rw [sum, ← Int.natCast_ediv, ← Int.natCast_emod] at DV
  obtain ⟨Q, hQ⟩ : ∃ Q, X * 4611686018427387904 / Y = Q := ⟨_, rfl⟩
  obtain ⟨R, hR⟩ : ∃ Q, X * 4611686018427387904 % Y = Q := ⟨_, rfl⟩
  unfold sticky at hq
  rw [hQ, hR] at hq DV
  have rc := run_i64_float (q : Int) F (by
    rw [decide_eq_false (show ¬ (q : Int) < 0 by omega), Int.natAbs_natCast]; exact hn)
  have wq : wrap64 (q : Int) = (q : Int) := by simp only [wrap64]; omega
  have L0 : (0 : Int) ≤ (l : Int) := by omega
  have L1 : (l : Int) ≤ 63 := by omega
  have R0 : (0 : Int) ≤ (r : Int) := by omega
  have R1 : (r : Int) ≤ 63 := by omega
  by_cases z : R = 0
  · rw [if_pos z] at hq
    subst hq
    subst z
    clear cl cr l1 l3 l4 r1 r3 r4 hQ hR hO' sum hg hn hX hY NB q0 q1 n0 n1 d0 d1 f6 f7
    go_enter Tryd.func35, Tryd.ntmps35
    go_wp2_with fail
    refine (A.out _).mono ?_
    rintro e w1 ⟨rfl, rfl⟩
    go_wp2_with fail
    refine (B.out _).mono ?_
    rintro e w1 ⟨rfl, rfl⟩
    go_wp2_with fail
    go_quiet (fail)
    go_wp2_with fail
    refine (DV.out _).mono ?_
    rintro e w2 ⟨rfl, m, rfl⟩
    go_wp2_with fail
    refine (LD.out _).mono ?_
    rintro e w2 ⟨rfl, rfl⟩
    go_wp2_with fail
    go_returns
    exact ⟨rfl, by repeat' (first | exact Below.refl _ _ | (with_reducible refine below_drewN ?_ _) | (with_reducible refine Below.drew ?_) | go_size)⟩
  · rw [if_neg z] at hq
    have rz : ((R : Int) == 0) = false := by simpa using (show (R : Int) ≠ 0 by omega)
    have bo : bits .or .u64 (Q : Int) 1 = (q : Int) := by
      have qb : Q < 18446744073709551616 := by rw [or_one] at hq; omega
      rw [hq]; exact bits_or Q 1 qb (by decide)
    clear cl cr l1 l3 l4 r1 r3 r4 hQ hR hO' sum hg hn hX hY NB q0 q1 n0 n1 d0 d1 f6 f7 hq z
    go_enter Tryd.func35, Tryd.ntmps35
    go_wp2_with fail
    refine (A.out _).mono ?_
    rintro e w1 ⟨rfl, rfl⟩
    go_wp2_with fail
    refine (B.out _).mono ?_
    rintro e w1 ⟨rfl, rfl⟩
    go_wp2_with fail
    go_quiet (fail)
    go_wp2_with fail
    refine (DV.out _).mono ?_
    rintro e w2 ⟨rfl, m, rfl⟩
    go_wp2_with fail
    refine (LD.out _).mono ?_
    rintro e w2 ⟨rfl, rfl⟩
    go_wp2_with fail
    go_returns
    exact ⟨rfl, by repeat' (first | exact Below.refl _ _ | (with_reducible refine below_drewN ?_ _) | (with_reducible refine Below.drew ?_) | go_size)⟩
theorem ldexp_zero (k : Int) (w : World) : Calls Tryd.prog 57 #[.float .f64 0, .int .i64 k] w fun e w' => e = .returned (.float .f64 0) ∧ w' = w := by
  have H : Hid (∀ w : World, Calls Tryd.prog 71 #[.float .f64 0, .int .i64 k] w fun e w' => e = .returned (.float .f64 0) ∧ w' = w) := by
    refine Lib.hid fun w => ?_
    have z : (FloatKind.f64.format.order 0 0 == some Ordering.eq) = true := by decide +kernel
    go_enter Tryd.func71, Tryd.ntmps71
    go_wp2_with fail
    go_returns
    exact ⟨rfl, rfl⟩
  go_enter Tryd.func57, Tryd.ntmps57
  go_wp2_with fail
  refine (H.out _).mono ?_
  rintro e w1 ⟨rfl, rfl⟩
  go_wp2_with fail
  go_returns
  exact ⟨rfl, rfl⟩
/-- nothing divided -/
theorem kquot_zero (d : Nat) (d0 : 0 < d) (d1 : d < 9223372036854775808) (w : World) :
    Calls Tryd.prog 35 #[.int .u64 0, .int .u64 d] w fun e w' => e = .returned (.float .f64 0) ∧ Below w.heap.size w w' := by
  obtain ⟨r, r1, r2, r3, r4⟩ := Go.Proofs.Num.norm_shift (d : Int) (by omega) (by omega)
  have l1 : (64 - (Lib.bitLen (Int.toNat 0) : Int)) = 64 := by decide +kernel
  have A := Lib.hid (fun w => Tryd.bits_LeadingZeros64 0 w (by decide) (by decide))
  have B := Lib.hid (fun w => Tryd.bits_LeadingZeros64 d w (by omega) (by omega))
  rw [l1] at A
  rw [r1] at B
  have cr : (d : Int) * 2 ^ r = ((d * 2 ^ r : Nat) : Int) := by rw [Int.natCast_mul, Int.natCast_pow]; rfl
  rw [cr] at r3 r4
  obtain ⟨Y, hY⟩ : ∃ X, d * 2 ^ r = X := ⟨_, rfl⟩
  rw [hY] at cr r3 r4
  have wd : IntKind.u64.wrap ((d : Int) * 2 ^ r) = (Y : Int) := by rw [cr, IntKind.wrap_u64]; omega
  have DV := Lib.hid (div64_any 0 0 Y (by omega) (by omega) (by omega) (by omega) (by omega))
  rw [show ((0 : Int) * 18446744073709551616 + 0) / (Y : Int) = 0 by simp, show ((0 : Int) * 18446744073709551616 + 0) % (Y : Int) = 0 by simp] at DV
  have rc := run_i64_float 0 0 (by
    obtain ⟨x, e, _, _, _, x0, _⟩ := of_int 0 (by decide)
    rw [e]
    exact x0 rfl)
  have LD := Lib.hid ldexp_zero
  have R0 : (0 : Int) ≤ (r : Int) := by omega
  have R1 : (r : Int) ≤ 63 := by omega
  clear cr r1 r3 r4 hY l1
  go_enter Tryd.func35, Tryd.ntmps35
  go_wp2_with fail
  refine (A.out _).mono ?_
  rintro e w1 ⟨rfl, rfl⟩
  go_wp2_with fail
  refine (B.out _).mono ?_
  rintro e w1 ⟨rfl, rfl⟩
  go_wp2_with fail
  go_quiet (fail)
  go_wp2_with fail
  refine (DV.out _).mono ?_
  rintro e w2 ⟨rfl, m, rfl⟩
  go_wp2_with fail
  refine (LD.out _ _).mono ?_
  rintro e w2 ⟨rfl, rfl⟩
  go_wp2_with fail
  go_returns
  exact ⟨rfl, by repeat' (first | exact Below.refl _ _ | (with_reducible refine below_drewN ?_ _) | (with_reducible refine Below.drew ?_) | go_size)⟩
end Go.Proofs.YtdccoebjcaemcaaRRRDoor
