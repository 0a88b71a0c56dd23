/- Package real: Nearest, in general. -/
import Derived.Test.YtdccoebjcaemcaaRRRDoorNear
import Derived.Test.YtdccoebjcaemcaaRRRDoorSpk3c
import Derived.Test.YtdccoebjcaemcaaRRRDoorExact
import Derived.WalkKit
import Derived.WalkSpells
import Derived.WalkLawsBesides
import Derived.Handy
import Derived.Lib.Hide
import Derived.Outline
namespace Go.Proofs.YtdccoebjcaemcaaRRRDoor
open Go.RowKit Go.Proofs.Flo Go.Proofs.Reg
set_option linter.unusedVariables false
set_option linter.unusedSimpArgs false
set_option maxRecDepth 100000
theorem neg_word (g : Nat) (h : g < 9223372036854775808) : g ^^^ 2 ^ 63 = Ieee.double.word true g := by
  have e : Ieee.double.word true g = 2 ^ 63 * 1 + g := by unfold Ieee.Format.word; rw [if_pos rfl, weight]
  rw [e]
  refine Nat.eq_of_testBit_eq fun i => ?_
  rw [Nat.testBit_xor, Nat.testBit_two_pow_mul_add 1 (by omega), Nat.testBit_two_pow]
  by_cases a : i < 63
  · rw [if_pos a, decide_eq_false (by omega), Bool.xor_false]
  · rw [if_neg a, Nat.testBit_lt_two_pow (Nat.lt_of_lt_of_le (show g < 2 ^ 63 by omega) (Nat.pow_le_pow_right (by decide) (by omega))), Bool.false_xor]
    by_cases c : i = 63
    · subst c; rfl
    · rw [decide_eq_false (by omega)]
      exact (Nat.testBit_lt_two_pow (Nat.lt_of_lt_of_le (show 1 < 2 ^ 1 by decide) (Nat.pow_le_pow_right (by decide) (by omega)))).symm
theorem run_neg (g : Nat) (h : g < 9223372036854775808) (w : World) : (Op.unary UnOp.neg (.float .f64 g)).run Tryd.prog w = .ok (.float .f64 (Ieee.double.word true g)) w := by
  rw [← neg_word g h]
  rfl
set_option maxHeartbeats 1000000 in
theorem knear_pos (n d : Nat) (g : Nat) (n0 : 0 < n) (n1 : n < 9223372036854775808) (d1 : d < 9223372036854775808) (G : goodB n d = true)
    (Q : ∀ w : World, Calls Tryd.prog 35 #[.int .u64 n, .int .u64 d] w fun e w' => e = .returned (.float .f64 g) ∧ Below w.heap.size w w') (w : World) :
    Calls Tryd.prog 14 #[.agg #[.int .i64 n, .int .i64 d]] w fun e w' => e = .returned (.float .f64 g) ∧ Below w.heap.size w w' := by
  have GO := Lib.hid (good_any n d (by omega) (by omega) (by omega) (by omega))
  rw [G] at GO
  have QH := Lib.hid Q
  have a : ¬ (n : Int) < 0 := by omega
  have b1 : IntKind.u64.wrap (n : Int) = (n : Int) := by rw [IntKind.wrap_u64]; omega
  have b2 : IntKind.u64.wrap (d : Int) = (d : Int) := by rw [IntKind.wrap_u64]; omega
  clear G Q n0 n1 d1
  go_enter Tryd.func14, Tryd.ntmps14
  go_wp2_with fail
  refine (GO.out _).mono ?_
  rintro e w1 ⟨rfl, hb⟩
  have KT := Lib.hid (((Tab.nil w).new [.int .i64 n, .int .i64 d] 25).later hb)
  have KB : Hid (Below w.heap.size w w1) := Lib.hid (bel_tr0 (by go_grown) hb)
  have z0 := KT.out.cell 0 0 rfl rfl
  have z1 := KT.out.cell 0 1 rfl rfl
  clear hb
  go_wp2_with fail
  refine (QH.out _).mono ?_
  rintro e w2 ⟨rfl, hb⟩
  have KB := Lib.hid (bel_tr0 KB.out hb)
  clear hb
  go_wp2_with fail
  go_returns
  exact ⟨rfl, KB.out⟩
set_option maxHeartbeats 1000000 in
theorem knear_neg (n d : Nat) (g : Nat) (n0 : 0 < n) (n1 : n ≤ 9223372036854775808) (d1 : d < 9223372036854775808) (G : goodB (-(n : Int)) d = true) (g1 : g < 9223372036854775808)
    (Q : ∀ w : World, Calls Tryd.prog 35 #[.int .u64 n, .int .u64 d] w fun e w' => e = .returned (.float .f64 g) ∧ Below w.heap.size w w') (w : World) :
    Calls Tryd.prog 14 #[.agg #[.int .i64 (-(n : Int)), .int .i64 d]] w fun e w' => e = .returned (.float .f64 (Ieee.double.word true g)) ∧ Below w.heap.size w w' := by
  have GO := Lib.hid (good_any (-(n : Int)) d (by omega) (by omega) (by omega) (by omega))
  rw [G] at GO
  have QH := Lib.hid Q
  have rn := run_neg g g1
  obtain ⟨m, hm⟩ : ∃ m : Int, -(n : Int) = m := ⟨_, rfl⟩
  rw [hm] at GO ⊢
  obtain ⟨v, hv⟩ : ∃ v, Ieee.double.word true g = v := ⟨_, rfl⟩
  rw [hv] at rn ⊢
  have a : m < 0 := by omega
  obtain ⟨u, hu⟩ : ∃ u : Int, IntKind.u64.wrap m = u := ⟨_, rfl⟩
  have b1 : IntKind.u64.wrap (-u) = (n : Int) := by
    rw [IntKind.wrap_u64] at hu ⊢
    omega
  have b2 : IntKind.u64.wrap (d : Int) = (d : Int) := by rw [IntKind.wrap_u64]; omega
  clear G Q n0 n1 d1 hm g1 hv
  go_enter Tryd.func14, Tryd.ntmps14
  go_wp2_with fail
  refine (GO.out _).mono ?_
  rintro e w1 ⟨rfl, hb⟩
  have KT := Lib.hid (((Tab.nil w).new [.int .i64 m, .int .i64 d] 25).later hb)
  have KB : Hid (Below w.heap.size w w1) := Lib.hid (bel_tr0 (by go_grown) hb)
  have z0 := KT.out.cell 0 0 rfl rfl
  have z1 := KT.out.cell 0 1 rfl rfl
  clear hb
  go_wp2_with fail
  refine (QH.out _).mono ?_
  rintro e w2 ⟨rfl, hb⟩
  have KB := Lib.hid (bel_tr0 KB.out hb)
  clear hb
  go_wp2_with fail
  go_returns
  exact ⟨rfl, KB.out⟩
theorem knear_bad (n d : Int) (n0 : -9223372036854775808 ≤ n) (n1 : n ≤ 9223372036854775807) (d0 : -9223372036854775808 ≤ d) (d1 : d ≤ 9223372036854775807) (G : goodB n d = false) (w : World) :
    Calls Tryd.prog 14 #[.agg #[.int .i64 n, .int .i64 d]] w fun e w' => e = .returned (.float .f64 9221120237041090561) ∧ Below w.heap.size w w' := by
  have GO := Lib.hid (good_any n d n0 n1 d0 d1)
  rw [G] at GO
  have NN := Lib.hid nan_any
  clear G n0 n1 d0 d1
  go_enter Tryd.func14, Tryd.ntmps14
  go_wp2_with fail
  refine (GO.out _).mono ?_
  rintro e w1 ⟨rfl, hb⟩
  have KB : Hid (Below w.heap.size w w1) := Lib.hid (bel_tr0 (by go_grown) hb)
  clear hb
  go_wp2_with fail
  refine (NN.out _).mono ?_
  rintro e w2 ⟨rfl, rfl⟩
  go_wp2_with fail
  go_returns
  exact ⟨rfl, KB.out⟩
/-- what Nearest answers, of a ratio in lowest terms -/
structure NeR (N D : Int) (f : Nat) : Prop where
  fb : f < 18446744073709551616
  cs : (N = 0 ∧ f = 0) ∨ (N ≠ 0 ∧ 4503599627370496 ≤ rung f ∧ rung f < 4953959590107545600 ∧ sgn f = decide (N < 0) ∧ NearB (rung f) N.natAbs D.toNat)
theorem knear_ex (N D : Int) (n0 : -9223372036854775808 ≤ N) (n1 : N ≤ 9223372036854775807) (d0 : 1 ≤ D) (d1 : D ≤ 9223372036854775807) (G : goodB N D = true) : ∃ f, NeR N D f ∧ ∀ w : World,
    Calls Tryd.prog 14 #[.agg #[.int .i64 N, .int .i64 D]] w fun e w' => e = .returned (.float .f64 f) ∧ Below w.heap.size w w' := by
  obtain ⟨d, rfl⟩ := Int.eq_ofNat_of_zero_le (show 0 ≤ D by omega)
  by_cases z : N = 0
  · subst z
    refine ⟨0, ⟨by decide, .inl ⟨rfl, rfl⟩⟩, fun w => ?_⟩
    have GO := Lib.hid (good_any 0 d (by decide) (by decide) (by omega) (by omega))
    rw [G] at GO
    have QH := Lib.hid (kquot_zero d (by omega) (by omega))
    have b2 : IntKind.u64.wrap (d : Int) = (d : Int) := by rw [IntKind.wrap_u64]; omega
    clear G n0 n1 d1 d0
    go_enter Tryd.func14, Tryd.ntmps14
    go_wp2_with fail
    refine (GO.out _).mono ?_
    rintro e w1 ⟨rfl, hb⟩
    have KT := Lib.hid (((Tab.nil w).new [.int .i64 0, .int .i64 d] 25).later hb)
    have KB : Hid (Below w.heap.size w w1) := Lib.hid (bel_tr0 (by go_grown) hb)
    have z0 := KT.out.cell 0 0 rfl rfl
    have z1 := KT.out.cell 0 1 rfl rfl
    clear hb
    go_wp2_with fail
    refine (QH.out _).mono ?_
    rintro e w2 ⟨rfl, hb⟩
    have KB := Lib.hid (bel_tr0 KB.out hb)
    clear hb
    go_wp2_with fail
    go_returns
    exact ⟨rfl, KB.out⟩
  · by_cases c : N < 0
    · obtain ⟨n, rfl⟩ : ∃ n : Nat, N = -(n : Int) := ⟨N.natAbs, by omega⟩
      obtain ⟨g, NB, g0, g1, Q⟩ := kquot_pos n d (by omega) (by omega) (by omega) (by omega)
      obtain ⟨w1, w2, w3⟩ := word_rung true g (by omega)
      exact ⟨Ieee.double.word true g, ⟨w3, .inr ⟨z, by rw [w1]; exact g0, by rw [w1]; exact g1, by rw [w2, decide_eq_true c], by rw [w1, Int.natAbs_neg, Int.natAbs_natCast]; exact NB⟩⟩, fun w => knear_neg n d g (by omega) (by omega) (by omega) G (by omega) Q w⟩
    · obtain ⟨n, rfl⟩ : ∃ n : Nat, N = (n : Int) := ⟨N.natAbs, by omega⟩
      obtain ⟨g, NB, g0, g1, Q⟩ := kquot_pos n d (by omega) (by omega) (by omega) (by omega)
      obtain ⟨w1, w2, w3⟩ := word_rung false g (by omega)
      rw [word_pos] at w1 w2 w3
      exact ⟨g, ⟨w3, .inr ⟨z, by rw [w1]; exact g0, by rw [w1]; exact g1, by rw [w2, decide_eq_false c], by rw [w1, Int.natAbs_natCast]; exact NB⟩⟩, fun w => knear_pos n d g (by omega) (by omega) (by omega) G Q w⟩
end Go.Proofs.YtdccoebjcaemcaaRRRDoor
