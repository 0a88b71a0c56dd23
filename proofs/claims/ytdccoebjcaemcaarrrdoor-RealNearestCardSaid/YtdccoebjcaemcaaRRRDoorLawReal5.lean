/- The walk of RealExact. -/
import Derived.Test.YtdccoebjcaemcaaRRRDoorSpk3c
import Derived.Test.YtdccoebjcaemcaaRRRDoorExact3
import Derived.WalkKit
import Derived.WalkSpells
import Derived.WalkLawsBesides
import Derived.Handy
import Derived.Lib.Hide
import Derived.Outline
namespace Go.Proofs.YtdccoebjcaemcaaRRRDoor
open Go.RowKit Go.Proofs.Flo Go.Proofs.Reg
set_option linter.unusedVariables false
set_option linter.unusedSimpArgs false
set_option maxRecDepth 100000
theorem good_pow (n : Int) (h : Nat) (o : h = 0 ∨ n % 2 = 1) : goodB n (2 ^ h) = true := by
  unfold goodB
  have := pow_ge h
  rw [gcd_pow n h o, decide_eq_true (by omega)]
  rfl
theorem ratio_eql (a b c d : Int) (w : World) : (binOp BinOp.eql 25 (.agg #[.int .i64 a, .int .i64 b]) (.agg #[.int .i64 c, .int .i64 d])).run Tryd.prog w = .ok (.bool ((a == c) && (b == d))) w := by
  by_cases h1 : a = c
  · subst h1
    by_cases h2 : b = d
    · subst h2; simp [go_sem]
    · simp [go_sem, h2]
  · simp [go_sem, h1]
theorem ex_facts (x : Nat) (N D E : Int) (R : ExR x N D E) : (-9223372036854775808 ≤ N ∧ N ≤ 9223372036854775807) ∧ (-9223372036854775808 ≤ D ∧ D ≤ 9223372036854775807) ∧ ((E = 0 ∧ goodB N D = true) ∨ (E = 4 ∧ N = 0 ∧ D = 0) ∨ (E = 5 ∧ N = 0 ∧ D = 0) ∨ (E = 2 ∧ N = 0 ∧ D = 0)) := by
  rcases R.cs with ⟨nn, rfl, rfl, rfl⟩ | ⟨nn, ii, rfl, rfl, rfl⟩ | ⟨hf, far, rfl, rfl, rfl⟩ | ⟨hf, ⟨n, h, S, c⟩, rfl, rfl, rfl⟩ | ⟨hf, h, S, c, rfl, rfl⟩
  · exact ⟨by decide, by decide, .inr (.inl ⟨rfl, rfl, rfl⟩)⟩
  · exact ⟨by decide, by decide, .inr (.inr (.inl ⟨rfl, rfl, rfl⟩))⟩
  · exact ⟨by decide, by decide, .inr (.inr (.inr ⟨rfl, rfl, rfl⟩))⟩
  · exact ⟨by decide, by decide, .inr (.inr (.inr ⟨rfl, rfl, rfl⟩))⟩
  · have p0 := pow_ge h
    have p1 := pow_le62 h c
    exact ⟨⟨S.n0, S.n1⟩, ⟨by omega, by omega⟩, .inl ⟨rfl, good_pow N h S.odd⟩⟩
set_option maxHeartbeats 1000000 in
theorem law_exact (x : Nat) (hx : x < 18446744073709551616) (w : World) (hD : Deb w) :
    Calls Tryd.prog 3 #[.int .u64 (x : Int)] w fun e w' => e = .returned (.bool true) ∧ Below w.heap.size w w' := by
  have HS := Lib.hid (fun w h => speaks3_any w h)
  obtain ⟨N, D, E, R, C⟩ := kexact_ex x hx
  have G1 := Lib.hid C
  have G2 := Lib.hid (r3exact_any x N D E hx R)
  obtain ⟨⟨n0, n1⟩, ⟨d0, d1⟩, cs⟩ := ex_facts x N D E R
  have GO := Lib.hid (good_any N D n0 n1 d0 d1)
  have r1 : ∀ w : World, (callFunc 10 #[.int .u64 (x : Int)]).run Tryd.prog w = .ok (.value (.float .f64 x)) w := fun w => run_frombits x w
  have Q : ∀ w : World, (binOp BinOp.eql 25 (.agg #[.int .i64 N, .int .i64 D]) (.agg #[.int .i64 N, .int .i64 D])).run Tryd.prog w = .ok (.bool true) w := fun w => by rw [ratio_eql]; simp
  have HD := Lib.hid hD
  clear hD R C
  rcases cs with ⟨rfl, g⟩ | ⟨rfl, rfl, rfl⟩ | ⟨rfl, rfl, rfl⟩ | ⟨rfl, rfl, rfl⟩
  · rw [g] at GO
    clear g
    go_enter Tryd.func3, Tryd.ntmps3
    go_wp2_with fail
    refine (HS.out _ HD.out).mono ?_
    rintro e w1 ⟨rfl, hb⟩
    have K1 := Lib.hid hb
    have D1 := Lib.hid (HD.out.later hb)
    clear hb HD
    go_wp2_with fail
    refine (G1.out _ D1.out).mono ?_
    rintro e w2 ⟨rfl, hb⟩
    have K2 := Lib.hid (bel_tr0 (bel_tr0 K1.out hb) (bel_new w2 (.cells #[.int .i64 N, .int .i64 D] 25)))
    have T2 := Lib.hid ((Tab.nil w2).new [.int .i64 N, .int .i64 D] 25)
    clear hb D1 K1
    go_wp2_with fail
    refine (G2.out _).mono ?_
    rintro e w3 ⟨rfl, hb⟩
    have K3 := Lib.hid (bel_tr0 K2.out hb)
    have T3 := Lib.hid (T2.out.later hb)
    clear hb K2 T2
    have c0 := T3.out.cell 0 0 rfl rfl
    have c1 := T3.out.cell 0 1 rfl rfl
    go_wp2_with fail
    refine (GO.out _).mono ?_
    rintro e w4 ⟨rfl, hb⟩
    have K4 := Lib.hid (bel_tr0 K3.out hb)
    clear hb K3
    go_wp2_with fail
    go_returns
    exact ⟨rfl, K4.out⟩
  all_goals
    clear GO
    go_enter Tryd.func3, Tryd.ntmps3
    go_wp2_with fail
    refine (HS.out _ HD.out).mono ?_
    rintro e w1 ⟨rfl, hb⟩
    have K1 := Lib.hid hb
    have D1 := Lib.hid (HD.out.later hb)
    clear hb HD
    go_wp2_with fail
    refine (G1.out _ D1.out).mono ?_
    rintro e w2 ⟨rfl, hb⟩
    have K2 := Lib.hid (bel_tr0 (bel_tr0 K1.out hb) (bel_new w2 (.cells #[.int .i64 0, .int .i64 0] 25)))
    have T2 := Lib.hid ((Tab.nil w2).new [.int .i64 0, .int .i64 0] 25)
    clear hb D1 K1
    go_wp2_with fail
    refine (G2.out _).mono ?_
    rintro e w3 ⟨rfl, hb⟩
    have K3 := Lib.hid (bel_tr0 K2.out hb)
    have T3 := Lib.hid (T2.out.later hb)
    clear hb K2 T2
    have c0 := T3.out.cell 0 0 rfl rfl
    have c1 := T3.out.cell 0 1 rfl rfl
    go_wp2_with fail
    go_returns
    exact ⟨rfl, K3.out⟩
end Go.Proofs.YtdccoebjcaemcaaRRRDoor
