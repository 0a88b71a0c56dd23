/- The walk of RatioRounds. -/
import Derived.Test.YtkohefgendcofaaLawRatio2
import Derived.WalkKit
import Derived.WalkSpells
import Derived.WalkLawsBesides
import Derived.Handy
import Derived.Lib.Hide
import Derived.Deep.QuietTactic
import Derived.BigQuiet
import Derived.LoopTactic
import Derived.RegionTactic
import Derived.BigRegion
import Derived.Deep.RegionHeld3
import Derived.Deep.RegionWith
import Derived.Outline
import Derived.Deep.DeepCutAuto
namespace Go.Proofs.Ytkohefgendcofaa
open Go.RowKit Go.Proofs.Big Go.Proofs.Reg
set_option linter.unusedVariables false
set_option linter.unusedSimpArgs false
set_option maxRecDepth 100000
theorem half_quo (p d : Int) (d0 : 1 ≤ d) : (if d - p % d ≤ p % d then p / d + 1 else p / d) = (2 * p + d) / (2 * d) := by
  have e := Int.mul_ediv_add_emod p d
  have r0 := Int.emod_nonneg p (show d ≠ 0 by omega)
  have r1 := Int.emod_lt_of_pos p (show 0 < d by omega)
  obtain ⟨q, hq⟩ : ∃ q, q = p / d := ⟨_, rfl⟩
  obtain ⟨r, hr⟩ : ∃ r, r = p % d := ⟨_, rfl⟩
  rw [← hq, ← hr] at e ⊢
  rw [← hr] at r0 r1
  have m2 : 2 * d * q = 2 * (d * q) := by rw [Int.mul_assoc]
  have m3 : 2 * d * (q + 1) = 2 * (d * q) + 2 * d := by rw [Int.mul_add, m2]; omega
  by_cases c : d - r ≤ r
  · rw [if_pos c]
    exact ((Int.ediv_emod_unique (a := 2 * p + d) (r := 2 * r - d) (q := q + 1) (show 0 < 2 * d by omega)).2 ⟨by rw [m3]; omega, by omega, by omega⟩).1.symm
  · rw [if_neg c]
    exact ((Int.ediv_emod_unique (a := 2 * p + d) (r := 2 * r + d) (q := q) (show 0 < 2 * d by omega)).2 ⟨by rw [m2]; omega, by omega, by omega⟩).1.symm
/-- a number, or that it is none: what the program says -/
structure Said (q A er : Int) (f : Bool) (k : Int) : Prop where
  hf : f = decide (-9223372036854775808 ≤ q ∧ q < 9223372036854775808)
  hk : k = if -9223372036854775808 ≤ q ∧ q < 9223372036854775808 then q else 0
  h : (f = true ∧ er = 0 ∧ A = k) ∨ (f = false ∧ er = 2 ∧ A = 0 ∧ k = 0)
theorem said_ex (q : Int) : ∃ A er f k, Said q A er f k ∧ ((-9223372036854775808 ≤ q ∧ q ≤ 9223372036854775807 ∧ A = q ∧ er = 0) ∨ (¬ (-9223372036854775808 ≤ q ∧ q ≤ 9223372036854775807) ∧ A = 0 ∧ er = 2)) := by
  by_cases c : -9223372036854775808 ≤ q ∧ q < 9223372036854775808
  · exact ⟨q, 0, true, q, ⟨by rw [decide_eq_true c], by rw [if_pos c], .inl ⟨rfl, rfl, rfl⟩⟩, .inl ⟨c.1, by omega, rfl, rfl⟩⟩
  · exact ⟨0, 2, false, 0, ⟨by rw [decide_eq_false c], by rw [if_neg c], .inr ⟨rfl, rfl, rfl, rfl⟩⟩, .inr ⟨by omega, rfl, rfl⟩⟩
theorem rdown_some (n d x A er : Int) (n0 : -9223372036854775808 ≤ n) (n1 : n ≤ 9223372036854775807) (d0 : 1 ≤ d) (d1 : d ≤ 9223372036854775807) (x0 : -9223372036854775808 ≤ x) (x1 : x ≤ 9223372036854775807) (hg : goodB n d = true)
    (hr : (-9223372036854775808 ≤ x * n / d ∧ x * n / d ≤ 9223372036854775807 ∧ A = x * n / d ∧ er = 0) ∨ (¬ (-9223372036854775808 ≤ x * n / d ∧ x * n / d ≤ 9223372036854775807) ∧ A = 0 ∧ er = 2)) (w : World) :
    Calls Try.prog 32 #[.agg #[.int .i64 n, .int .i64 d], .int .i64 x] w fun e w' => e = .returned (.tuple #[.int .i64 A, .int .i64 er]) ∧ Below w.heap.size w w' := by
  have e := Int.mul_ediv_add_emod (x * n) d
  have r0 := Int.emod_nonneg (x * n) (show d ≠ 0 by omega)
  have r1 := Int.emod_lt_of_pos (x * n) (show 0 < d by omega)
  have e' : x * n = x * n / d * d + x * n % d := by rw [Int.mul_comm (x * n / d) d]; omega
  rcases hr with ⟨q0, q1, rfl, rfl⟩ | ⟨h, rfl, rfl⟩
  · exact down_ok n d x (x * n / d) (x * n % d) n0 n1 d0 d1 x0 x1 hg (Lib.hid e') r0 r1 q0 q1 w
  · exact down_no n d x (x * n / d) (x * n % d) n0 n1 d0 d1 x0 x1 hg (Lib.hid e') r0 r1 (Lib.hid (by omega)) w
theorem rhalf_some (n d x A er : Int) (n0 : -9223372036854775808 ≤ n) (n1 : n ≤ 9223372036854775807) (d0 : 1 ≤ d) (d1 : d ≤ 9223372036854775807) (x0 : -9223372036854775808 ≤ x) (x1 : x ≤ 9223372036854775807) (hg : goodB n d = true)
    (hr : (-9223372036854775808 ≤ (2 * (x * n) + d) / (2 * d) ∧ (2 * (x * n) + d) / (2 * d) ≤ 9223372036854775807 ∧ A = (2 * (x * n) + d) / (2 * d) ∧ er = 0) ∨ (¬ (-9223372036854775808 ≤ (2 * (x * n) + d) / (2 * d) ∧ (2 * (x * n) + d) / (2 * d) ≤ 9223372036854775807) ∧ A = 0 ∧ er = 2)) (w : World) :
    Calls Try.prog 33 #[.agg #[.int .i64 n, .int .i64 d], .int .i64 x] w fun e w' => e = .returned (.tuple #[.int .i64 A, .int .i64 er]) ∧ Below w.heap.size w w' := by
  have e := Int.mul_ediv_add_emod (x * n) d
  have r0 := Int.emod_nonneg (x * n) (show d ≠ 0 by omega)
  have r1 := Int.emod_lt_of_pos (x * n) (show 0 < d by omega)
  have e' : x * n = x * n / d * d + x * n % d := by rw [Int.mul_comm (x * n / d) d]; omega
  exact half_any n d x (x * n / d) (x * n % d) ((2 * (x * n) + d) / (2 * d)) A er n0 n1 d0 d1 x0 x1 hg e' r0 r1 (half_quo (x * n) d d0).symm hr w
set_option maxHeartbeats 1000000 in
theorem rounds_bad (n d x : Int) (n0 : -9223372036854775808 ≤ n) (n1 : n ≤ 9223372036854775807) (d0 : -9223372036854775808 ≤ d) (d1 : d ≤ 9223372036854775807) (x0 : -9223372036854775808 ≤ x) (x1 : x ≤ 9223372036854775807) (hg : goodB n d = false) (w : World) :
    Calls Try.prog 6 #[.int .i64 n, .int .i64 d, .int .i64 x] w fun e w' => e = .returned (.bool true) ∧ Below w.heap.size w w' := by
  have HG := Lib.hid hg
  clear hg
  go_enter Try.func6, Try.ntmps6
  go_wp2_with fail
  refine (speaks2_any _).mono ?_
  rintro e w1 ⟨rfl, hb1⟩
  have T2 := Lib.hid (TwoI.new w1 n d 42)
  have K2 := Lib.hid (bel_alloc (bel_trans (Below.refl _ _) hb1) (.cells #[.int .i64 n, .int .i64 d] 42))
  clear hb1
  go_wp2_with fail
  refine (down_bad n d x n0 n1 d0 d1 HG.out _).mono ?_
  rintro e w3 ⟨rfl, hb3⟩
  have T3 := Lib.hid (T2.out.later hb3)
  have K3 := Lib.hid (bel_trans K2.out hb3)
  clear hb3 K2 T2
  obtain ⟨c0, c1⟩ := T3.out
  have n3 := T3.out.lt
  go_wp2_with fail
  refine (half_bad n d x n0 n1 d0 d1 HG.out _).mono ?_
  rintro e w4 ⟨rfl, hb4⟩
  have K4 := Lib.hid (bel_trans K3.out hb4)
  clear hb4 K3
  go_wp2_with fail
  refine (good2_any n d n0 n1 d0 d1 _).mono ?_
  rintro e w5 ⟨rfl, hb5⟩
  have K5 := Lib.hid (bel_trans K4.out hb5)
  clear hb5 K4
  rw [HG.out]
  go_wp2_with fail
  go_returns
  exact ⟨rfl, K5.out⟩
set_option maxHeartbeats 2000000 in
theorem rounds_good (n d x : Int) (n0 : -9223372036854775808 ≤ n) (n1 : n ≤ 9223372036854775807) (d0 : 1 ≤ d) (d1 : d ≤ 9223372036854775807) (x0 : -9223372036854775808 ≤ x) (x1 : x ≤ 9223372036854775807) (hg : goodB n d = true) (w : World) :
    Calls Try.prog 6 #[.int .i64 n, .int .i64 d, .int .i64 x] w fun e w' => e = .returned (.bool true) ∧ Below w.heap.size w w' := by
  have HG := Lib.hid hg
  clear hg
  have PR := Lib.hid (prod_range x n x0 x1 n0 n1)
  obtain ⟨q, hq⟩ : ∃ q, q = x * n / d := ⟨_, rfl⟩
  obtain ⟨h, hh⟩ : ∃ h, h = (2 * (x * n) + d) / (2 * d) := ⟨_, rfl⟩
  obtain ⟨A, er, f, k, S1, R1⟩ := said_ex q
  obtain ⟨B, fr, g, m, S2, R2⟩ := said_ex h
  have dlo : -9223372036854775808 ≤ d := by omega
  have DN := Lib.hid (fun w => rdown_some n d x A er n0 n1 d0 d1 x0 x1 HG.out (by rw [← hq]; exact R1) w)
  have HF := Lib.hid (fun w => rhalf_some n d x B fr n0 n1 d0 d1 x0 x1 HG.out (by rw [← hh]; exact R2) w)
  have RD := Lib.hid (fun w => r2down_any x n d x0 x1 n0 n1 d0 d1 w)
  have RH := Lib.hid (fun w => r2half_any x n d x0 x1 n0 n1 d0 d1 w)
  rw [← hq] at RD
  rw [← hh] at RH
  have SQ := Lib.hid (sm_of q (by
    have := PR.out
    have e := Int.mul_ediv_add_emod (x * n) d
    have r0 := Int.emod_nonneg (x * n) (show d ≠ 0 by omega)
    have r1 := Int.emod_lt_of_pos (x * n) (show 0 < d by omega)
    rw [← hq] at e
    by_cases c : q < 0
    · have : d * q ≤ 1 * q := by
        have := Int.mul_le_mul_of_nonneg_right (c := -q) d0 (by omega)
        rw [Int.mul_neg, Int.mul_neg] at this
        omega
      have g1 : d * 1 ≤ 9223372036854775807 := by omega
      have : -q * 1 ≤ -q * d := Int.mul_le_mul_of_nonneg_left d0 (by omega)
      rw [Int.neg_mul, Int.neg_mul, Int.mul_comm q d] at this
      omega
    · omega) (by
    have := PR.out
    have e := Int.mul_ediv_add_emod (x * n) d
    have r0 := Int.emod_nonneg (x * n) (show d ≠ 0 by omega)
    rw [← hq] at e
    by_cases c : 0 ≤ q
    · have : 1 * q ≤ d * q := Int.mul_le_mul_of_nonneg_right d0 c
      omega
    · omega))
  have SH := Lib.hid (sm_of h (by
    have := PR.out
    have e := Int.mul_ediv_add_emod (2 * (x * n) + d) (2 * d)
    have r0 := Int.emod_nonneg (2 * (x * n) + d) (show 2 * d ≠ 0 by omega)
    have r1 := Int.emod_lt_of_pos (2 * (x * n) + d) (show 0 < 2 * d by omega)
    rw [← hh] at e
    by_cases c : h < 0
    · have : -h * 1 ≤ -h * (2 * d) := Int.mul_le_mul_of_nonneg_left (by omega) (by omega)
      rw [Int.neg_mul, Int.neg_mul, Int.mul_comm h (2 * d)] at this
      omega
    · omega) (by
    have := PR.out
    have e := Int.mul_ediv_add_emod (2 * (x * n) + d) (2 * d)
    have r0 := Int.emod_nonneg (2 * (x * n) + d) (show 2 * d ≠ 0 by omega)
    rw [← hh] at e
    by_cases c : 0 ≤ h
    · have : 1 * h ≤ 2 * d * h := Int.mul_le_mul_of_nonneg_right (by omega) c
      omega
    · omega))
  have HS1 := Lib.hid S1
  have HS2 := Lib.hid S2
  have hf1 := Lib.hid S1.hf
  have hk1 := Lib.hid S1.hk
  have hf2 := Lib.hid S2.hf
  have hk2 := Lib.hid S2.hk
  clear S1 S2 R1 R2 hq hh
  go_enter Try.func6, Try.ntmps6
  go_wp2_with fail
  refine (speaks2_any _).mono ?_
  rintro e w1 ⟨rfl, hb1⟩
  have T2 := Lib.hid (TwoI.new w1 n d 42)
  have K2 := Lib.hid (bel_alloc (bel_trans (Below.refl _ _) hb1) (.cells #[.int .i64 n, .int .i64 d] 42))
  clear hb1
  go_wp2_with fail
  refine (DN.out _).mono ?_
  rintro e w3 ⟨rfl, hb3⟩
  have T3 := Lib.hid (T2.out.later hb3)
  have K3 := Lib.hid (bel_trans K2.out hb3)
  clear hb3 K2 T2
  obtain ⟨c0, c1⟩ := T3.out
  have n3 := T3.out.lt
  go_wp2_with fail
  refine (HF.out _).mono ?_
  rintro e w4 ⟨rfl, hb4⟩
  have K4 := Lib.hid (bel_trans K3.out hb4)
  clear hb4 K3 c0 c1 n3
  go_wp2_with fail
  refine (good2_any n d n0 n1 dlo d1 _).mono ?_
  rintro e w5 ⟨rfl, hb5⟩
  have K5 := Lib.hid (bel_trans K4.out hb5)
  clear hb5 K4
  rw [HG.out]
  go_wp2_with fail
  refine (RD.out _).mono ?_
  rintro e w6 ⟨ng6, a6, l6, c6, rfl, hv6, hb6⟩
  have H6 := Lib.hid hv6
  have K6 := Lib.hid (bel_trans K5.out hb6)
  clear hv6 hb6 K5
  go_wp2_with fail
  refine (bint_any ng6 a6 l6 c6 q _ H6.out (Nat.le_trans (Sm.le H6.out SQ.out) (by decide)) f k hf1 hk1).mono ?_
  rintro e w7 ⟨rfl, hb7⟩
  have K7 := Lib.hid (bel_trans K6.out hb7)
  clear hb7 K6 H6
  go_wp2_with fail
  refine (RH.out _).mono ?_
  rintro e w8 ⟨ng8, a8, l8, c8, rfl, hv8, hb8⟩
  have H8 := Lib.hid hv8
  have K8 := Lib.hid (bel_trans K7.out hb8)
  clear hv8 hb8 K7
  go_wp2_with fail
  refine (bint_any ng8 a8 l8 c8 h _ H8.out (Nat.le_trans (Sm.le H8.out SH.out) (by decide)) g m hf2 hk2).mono ?_
  rintro e w9 ⟨rfl, hb9⟩
  have K9 := Lib.hid (bel_trans K8.out hb9)
  clear hb9 K8 H8
  have h1 := HS1.out.h
  have h2 := HS2.out.h
  clear hf1 hk1 hf2 hk2 HS1 HS2 DN HF RD RH SQ SH
  rcases h1 with ⟨rfl, rfl, rfl⟩ | ⟨rfl, rfl, rfl, rfl⟩ <;> rcases h2 with ⟨rfl, rfl, rfl⟩ | ⟨rfl, rfl, rfl, rfl⟩
  all_goals
    go_wp2_with fail
    go_returns
    exact ⟨rfl, K9.out⟩
theorem law_rounds (n d x : Int) (n0 : -9223372036854775808 ≤ n) (n1 : n ≤ 9223372036854775807) (d0 : -9223372036854775808 ≤ d) (d1 : d ≤ 9223372036854775807) (x0 : -9223372036854775808 ≤ x) (x1 : x ≤ 9223372036854775807) (w : World) :
    Calls Try.prog 6 #[.int .i64 n, .int .i64 d, .int .i64 x] w fun e w' => e = .returned (.bool true) ∧ Below w.heap.size w w' := by
  cases hg : goodB n d
  · exact rounds_bad n d x n0 n1 d0 d1 x0 x1 hg w
  · refine rounds_good n d x n0 n1 ?_ d1 x0 x1 hg w
    unfold goodB at hg
    rw [Bool.and_eq_true, decide_eq_true_eq] at hg
    exact hg.1
end Go.Proofs.Ytkohefgendcofaa
