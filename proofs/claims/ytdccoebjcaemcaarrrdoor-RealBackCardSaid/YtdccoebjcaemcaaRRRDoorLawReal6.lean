/- The walk of RealBack. -/
import Derived.Test.YtdccoebjcaemcaaRRRDoorNearB
import Derived.Test.YtdccoebjcaemcaaRRRDoorLawReal5
import Derived.WalkKit
import Derived.WalkSpells
import Derived.WalkLawsBesides
import Derived.Handy
import Derived.Lib.Hide
import Derived.Outline
namespace Go.Proofs.YtdccoebjcaemcaaRRRDoor
open Go.RowKit Go.Proofs.Flo Go.Proofs.Reg
set_option linter.unusedVariables false
set_option linter.unusedSimpArgs false
set_option maxRecDepth 100000
/-- the nearest float of the exact value of a float is that float -/
theorem back_same (x : Nat) (N : Int) (h : Nat) (f : Nat) (hx : x < 18446744073709551616) (S : Spl3 x N h) (R : NeR N (2 ^ h) f) : (rung x = 0 ∧ f = 0) ∨ (0 < rung x ∧ f = x) := by
  have u := U_int
  have p := pow_ge h
  have e := S.e
  rcases R.cs with ⟨rfl, rfl⟩ | ⟨n0, g0, g1, sf, NB⟩
  · left
    refine ⟨?_, rfl⟩
    rw [Int.zero_mul] at e
    have z : sval x = 0 := by
      rcases Int.mul_eq_zero.1 e.symm with y | y
      · exact y
      · omega
    unfold sval sg at z
    have m : mag (rung x) = 0 := by
      cases s : sgn x
      · rw [s] at z; simp only [Bool.false_eq_true, if_false] at z; omega
      · rw [s] at z; simp only [if_true] at z; omega
    have := mag_pos (rung x)
    omega
  · right
    have pn : (2 ^ h : Int).toNat = 2 ^ h := by
      have : ((2 : Int) ^ h) = ((2 ^ h : Nat) : Int) := by rw [Int.natCast_pow]; rfl
      rw [this, Int.toNat_natCast]
    rw [pn] at NB
    have ea : N.natAbs * U = mag (rung x) * 2 ^ h := by
      have a := congrArg Int.natAbs e
      rw [Int.natAbs_mul, Int.natAbs_mul, Int.natAbs_natCast, Int.natAbs_pow] at a
      have sv : (sval x).natAbs = mag (rung x) := by
        unfold sval sg
        cases sgn x <;> simp
      rw [a, sv]
      rfl
    have re := near_exact (rung f) (rung x) N.natAbs (2 ^ h) (Nat.two_pow_pos h) NB ea
    have se : sgn x = decide (N < 0) := by
      have mp := mag_pos (rung x)
      unfold sval sg at e
      cases s : sgn x
      · rw [s] at e
        simp only [Bool.false_eq_true, if_false] at e
        refine (decide_eq_false fun c => ?_).symm
        have a := Int.mul_lt_mul_of_pos_right c u
        have b := Int.mul_nonneg (show 0 ≤ ((mag (rung x) : Nat) : Int) by omega) (show 0 ≤ (2 : Int) ^ h by omega)
        omega
      · rw [s] at e
        simp only [if_true] at e
        refine (decide_eq_true ?_).symm
        by_cases c : N < 0
        · exact c
        · have a := Int.mul_lt_mul_of_pos_right (show 0 < N by omega) u
          have b := Int.mul_nonneg (show 0 ≤ ((mag (rung x) : Nat) : Int) by omega) (show 0 ≤ (2 : Int) ^ h by omega)
          rw [Int.neg_mul] at e
          omega
    refine ⟨by omega, ?_⟩
    rw [← word_self f R.fb, ← word_self x hx, sf, se, re]
set_option maxHeartbeats 1000000 in
theorem law_back (x : Nat) (hx : x < 18446744073709551616) (w : World) (hD : Deb w) :
    Calls Tryd.prog 5 #[.int .u64 (x : Int)] w fun e w' => e = .returned (.bool true) ∧ Below w.heap.size w w' := by
  have HS := Lib.hid (fun w h => speaks3_any w h)
  obtain ⟨N, D, E, R, C⟩ := kexact_ex x hx
  have G1 := Lib.hid C
  obtain ⟨⟨n0, n1⟩, ⟨d0, d1⟩, cs⟩ := ex_facts x N D E R
  have r1 : ∀ w : World, (callFunc 10 #[.int .u64 (x : Int)]).run Tryd.prog w = .ok (.value (.float .f64 x)) w := fun w => run_frombits x w
  have HD := Lib.hid hD
  have K : (E ≠ 0 ∧ N = 0 ∧ D = 0) ∨ (E = 0 ∧ nanB x = false ∧ ∃ f, NeR N D f ∧ ((rung x = 0 ∧ f = 0) ∨ (0 < rung x ∧ f = x)) ∧ ∀ w : World, Calls Tryd.prog 14 #[.agg #[.int .i64 N, .int .i64 D]] w fun e w' => e = .returned (.float .f64 f) ∧ Below w.heap.size w w') := by
    rcases R.cs with ⟨nn, rfl, rfl, rfl⟩ | ⟨nn, ii, rfl, rfl, rfl⟩ | ⟨hf, far, rfl, rfl, rfl⟩ | ⟨hf, ⟨n, h, S, c⟩, rfl, rfl, rfl⟩ | ⟨hf, h, S, c, rfl, rfl⟩
    · exact .inl ⟨by decide, rfl, rfl⟩
    · exact .inl ⟨by decide, rfl, rfl⟩
    · exact .inl ⟨by decide, rfl, rfl⟩
    · exact .inl ⟨by decide, rfl, rfl⟩
    · have p := pow_ge h
      obtain ⟨f, NR, Q⟩ := knear_ex N (2 ^ h) n0 n1 p d1 (good_pow N h S.odd)
      exact .inr ⟨rfl, nan_num hf, f, NR, back_same x N h f hx S NR, Q⟩
  clear hD R C
  rcases K with ⟨e0, rfl, rfl⟩ | ⟨rfl, nn, f, NR, cf, QQ⟩
  · have ez : (E == 0) = false := by simpa using e0
    have Q : ∀ w : World, (binOp BinOp.eql 25 (.agg #[.int .i64 0, .int .i64 0]) (.agg #[.int .i64 0, .int .i64 0])).run Tryd.prog w = .ok (.bool true) w := fun w => by rw [ratio_eql]; simp
    clear cs e0
    go_enter Tryd.func5, Tryd.ntmps5
    go_wp2_with fail
    refine (HS.out _ HD.out).mono ?_
    rintro e w1 ⟨rfl, hb⟩
    have K1 := Lib.hid hb
    have D1 := Lib.hid (HD.out.later hb)
    clear hb HD
    go_wp2_with fail
    refine (G1.out _ D1.out).mono ?_
    rintro e w2 ⟨rfl, hb⟩
    have K2 := Lib.hid (bel_tr0 (bel_tr0 K1.out hb) (bel_new w2 (.cells #[.int .i64 0, .int .i64 0] 25)))
    clear hb D1 K1
    go_wp2_with fail
    go_returns
    exact ⟨rfl, K2.out⟩
  · have NE := Lib.hid QQ
    have e1 : (FloatKind.f64.format.order f x == some Ordering.eq) = true := by
      rcases cf with ⟨a, rfl⟩ | ⟨a, rfl⟩
      · rw [(eql_key 0 x (by decide) nn).1, show key 0 = 0 by decide]
        unfold key sg
        rw [a]
        cases sgn x <;> rfl
      · rw [(eql_key f f nn nn).1]
        exact decide_eq_true rfl
    have e2 := zero_cmp x nn
    have NX : Hid (0 < rung x ∨ f = 0) := Lib.hid (by rcases cf with ⟨a, b⟩ | ⟨a, b⟩; exact .inr b; exact .inl a)
    have r2 := run_bits f
    have e3 : (FloatKind.f64.format.order x 0 != some Ordering.eq) = !(decide (rung x = 0)) := by rw [← e2]; rfl
    clear cs NR cf QQ e2 nn
    by_cases z : rung x = 0
    · have f0 : f = 0 := by rcases NX.out with a | a; omega; exact a
      subst f0
      rw [decide_eq_true z] at e3
      clear NX z
      go_enter Tryd.func5, Tryd.ntmps5
      go_wp2_with fail
      refine (HS.out _ HD.out).mono ?_
      rintro e w1 ⟨rfl, hb⟩
      have K1 := Lib.hid hb
      have D1 := Lib.hid (HD.out.later hb)
      clear hb HD
      go_wp2_with fail
      refine (G1.out _ D1.out).mono ?_
      rintro e w2 ⟨rfl, hb⟩
      have K2 := Lib.hid (bel_tr0 (bel_tr0 K1.out hb) (bel_new w2 (.cells #[.int .i64 N, .int .i64 D] 25)))
      clear hb D1 K1
      go_wp2_with fail
      refine (NE.out _).mono ?_
      rintro e w3 ⟨rfl, hb⟩
      have K3 := Lib.hid (bel_tr0 K2.out hb)
      clear hb K2
      go_wp2_with fail
      go_returns
      exact ⟨rfl, K3.out⟩
    · rw [decide_eq_false z] at e3
      clear NX z
      go_enter Tryd.func5, Tryd.ntmps5
      go_wp2_with fail
      refine (HS.out _ HD.out).mono ?_
      rintro e w1 ⟨rfl, hb⟩
      have K1 := Lib.hid hb
      have D1 := Lib.hid (HD.out.later hb)
      clear hb HD
      go_wp2_with fail
      refine (G1.out _ D1.out).mono ?_
      rintro e w2 ⟨rfl, hb⟩
      have K2 := Lib.hid (bel_tr0 (bel_tr0 K1.out hb) (bel_new w2 (.cells #[.int .i64 N, .int .i64 D] 25)))
      clear hb D1 K1
      go_wp2_with fail
      refine (NE.out _).mono ?_
      rintro e w3 ⟨rfl, hb⟩
      have K3 := Lib.hid (bel_tr0 K2.out hb)
      clear hb K2
      go_wp2_with fail
      go_returns
      exact ⟨rfl, K3.out⟩
end Go.Proofs.YtdccoebjcaemcaaRRRDoor
