/- The walk of RealMonotone. -/
import Derived.Test.YtdccoebjcaemcaaRRRDoorSpk3c
import Derived.Test.YtdccoebjcaemcaaRRRDoorGridB
import Derived.WalkKit
import Derived.WalkSpells
import Derived.WalkLawsBesides
import Derived.Handy
import Derived.Lib.Hide
import Derived.Outline
namespace Go.Proofs.YtdccoebjcaemcaaRRRDoor
open Go.RowKit Go.Proofs.Flo
set_option linter.unusedVariables false
set_option linter.unusedSimpArgs false
set_option maxRecDepth 100000
theorem lmt_in {V lo hi : Int} (l : lo ≤ hi) : lo ≤ lmt V lo hi ∧ lmt V lo hi ≤ hi := by unfold lmt; split <;> (try split) <;> omega
theorem lmt_mono {V W lo hi : Int} (l : lo ≤ hi) (h : V ≤ W) : lmt V lo hi ≤ lmt W lo hi := by unfold lmt; repeat' split <;> omega
theorem sval_mono {x y : Nat} (h : key x ≤ key y) : sval x ≤ sval y := by
  have a := mag_iff (rung x) (rung y)
  have b := mag_iff (rung y) (rung x)
  revert h
  unfold key sval sg
  cases sgn x <;> cases sgn y <;> simp only [Bool.false_eq_true, if_false, if_true] <;> intro h
  · by_cases c : rung x < rung y
    · have := a.1.2 c; omega
    · have := a.2.2 (by omega); omega
  · have := a.2.2 (by omega)
    have e : rung x = 0 ∧ rung y = 0 := by omega
    rw [e.1, e.2, mag_zero]; omega
  · omega
  · by_cases c : rung y < rung x
    · have := b.1.2 c; omega
    · have := a.2.2 (by omega); omega
theorem gridN_mono (x y : Nat) (den lo hi : Int) (d : ¬ (den < 1 ∨ 1048576 < den ∨ hi < lo)) (nx : nanB x = false) (ny : nanB y = false) (h : key x ≤ key y) : gridN x den lo hi ≤ gridN y den lo hi := by
  unfold gridN
  rw [if_neg d, if_neg d, nx, ny]
  simp only [Bool.false_eq_true, if_false]
  have l : lo ≤ hi := by omega
  have ix : infB y = false → rung y < 9218868437227405312 := fun h => by have := of_decide_eq_false h; have := of_decide_eq_false ny; omega
  have iy : infB x = false → rung x < 9218868437227405312 := fun h => by have := of_decide_eq_false h; have := of_decide_eq_false nx; omega
  cases a : infB x <;> cases b : infB y <;> simp only [Bool.false_eq_true, if_false, if_true]
  · exact lmt_mono l (gridR_mono _ _ _ (by omega) (sval_mono h))
  · rw [inf_key (of_decide_eq_true b)] at h
    have := iy a
    have := lmt_in (V := gridR (sval x) den) l
    cases s : sgn y
    · simp only [Bool.false_eq_true, if_false]; omega
    · rw [s] at h
      simp only [if_true] at h
      revert h
      unfold key sg
      intro h
      split at h <;> omega
  · rw [inf_key (of_decide_eq_true a)] at h
    have := ix b
    have := lmt_in (V := gridR (sval y) den) l
    cases s : sgn x
    · rw [s] at h
      simp only [Bool.false_eq_true, if_false] at h
      revert h
      unfold key sg
      intro h
      split at h <;> omega
    · simp only [if_true]; omega
  · rw [inf_key (of_decide_eq_true a), inf_key (of_decide_eq_true b)] at h
    cases s : sgn x <;> cases t : sgn y <;> rw [s, t] at h <;> simp only [Bool.false_eq_true, if_false, if_true] at h ⊢ <;> omega
/-- a number of 64ths stays where it is -/
theorem grid_stay (y : Nat) (n : Int) (hr : rung y < 9218868437227405312) (e : sval y * 64 = n * U) (n0 : -2147483648 ≤ n) (n1 : n ≤ 2147483647) : gridN y 64 (-1099511627776) 1099511627776 = n ∧ gridE y 64 (-1099511627776) 1099511627776 = 0 := by
  unfold gridN gridE
  rw [if_neg (show ¬ ((64 : Int) < 1 ∨ (1048576 : Int) < 64 ∨ (1099511627776 : Int) < -1099511627776) by decide), if_neg (show ¬ ((64 : Int) < 1 ∨ (1048576 : Int) < 64 ∨ (1099511627776 : Int) < -1099511627776) by decide), nan_num hr, inf_num hr]
  simp only [Bool.false_eq_true, if_false]
  rw [gridR_parts _ n 64 e]
  exact ⟨by unfold lmt; rw [if_neg (by omega), if_neg (by omega)], trivial⟩
theorem run_quo (t : TypeId) (x y r : Nat) (h : Ieee.double.div x y = some r) (w : World) : (binOp BinOp.quo t (.float .f64 x) (.float .f64 y)).run Tryd.prog w = .ok (.float .f64 r) w :=
  run_float_arith w .quo t .f64 x y r h
theorem gridE_nan (x : Nat) (den lo hi : Int) (d : ¬ (den < 1 ∨ 1048576 < den ∨ hi < lo)) (n : Bool) (h : nanB x = n) : gridE x den lo hi = if n then 4 else 0 := by
  unfold gridE
  rw [if_neg d, h]
theorem run_i32_float (n : Int) (x : Nat) (e : Ieee.double.write (.number (n < 0) n.natAbs 0) = x) (w : World) : (convert 21 29 (.int .i32 n)).run Tryd.prog w = .ok (.float .f64 x) w := by
  rw [← e]
  kernel_rfl
set_option maxHeartbeats 4000000 in
theorem law_monotone (x y : Nat) (n : Int) (hx : x < 18446744073709551616) (hy : y < 18446744073709551616) (n0 : -2147483648 ≤ n) (n1 : n ≤ 2147483647) (w : World) (hD : Deb w) :
    Calls Tryd.prog 7 #[.int .u64 (x : Int), .int .u64 (y : Int), .int .i32 n] w fun e w' => e = .returned (.bool true) ∧ Below w.heap.size w w' := by
  have HS := Lib.hid (speaks3_any w hD)
  have d : ¬ ((64 : Int) < 1 ∨ (1048576 : Int) < 64 ∨ (1099511627776 : Int) < -1099511627776) := by decide
  have G1 := Lib.hid (fun w h => kgrid_any x 64 (-1099511627776) 1099511627776 hx (by decide) (by decide) w h)
  have G2 := Lib.hid (fun w h => kgrid_any y 64 (-1099511627776) 1099511627776 hy (by decide) (by decide) w h)
  obtain ⟨z, q, z1, z2, z3, z4, z5⟩ := of_int64 n (by omega)
  have G3 := Lib.hid (fun w h => kgrid_any q 64 (-1099511627776) 1099511627776 z3 (by decide) (by decide) w h)
  obtain ⟨s1, s2⟩ := grid_stay q n z4 z5 n0 n1
  rw [s1, s2] at G3
  have rc := run_i32_float n z z1
  have rq := run_quo 29 _ _ _ z2
  have r1 : ∀ w : World, (callFunc 10 #[.int .u64 (x : Int)]).run Tryd.prog w = .ok (.value (.float .f64 x)) w := fun w => run_frombits x w
  have r2 : ∀ w : World, (callFunc 10 #[.int .u64 (y : Int)]).run Tryd.prog w = .ok (.value (.float .f64 y)) w := fun w => run_frombits y w
  have e1 := neq_self x
  have e2 := neq_self y
  have MO := Lib.hid (gridN_mono x y 64 _ _ d)
  have EQ := Lib.hid (eql_key x y)
  have ON := Lib.hid (order_nan x y)
  have E1 := gridE_nan x 64 _ _ d _ rfl
  have E2 := gridE_nan y 64 _ _ d _ rfl
  rw [E1] at G1
  rw [E2] at G2
  obtain ⟨p1, hp1⟩ : ∃ p, gridN x 64 (-1099511627776) 1099511627776 = p := ⟨_, rfl⟩
  obtain ⟨p2, hp2⟩ : ∃ p, gridN y 64 (-1099511627776) 1099511627776 = p := ⟨_, rfl⟩
  rw [hp1] at G1 MO
  rw [hp2] at G2 MO
  have ww : wrap64 n = n := by simp only [wrap64]; omega
  have HD := Lib.hid hD
  obtain ⟨nx, hnx⟩ : ∃ b, nanB x = b := ⟨_, rfl⟩
  obtain ⟨ny, hny⟩ : ∃ b, nanB y = b := ⟨_, rfl⟩
  rw [hnx] at e1 MO EQ ON G1
  rw [hny] at e2 MO EQ ON G2
  have K : (nx = true ∧ FloatKind.f64.format.order x y = none) ∨ (nx = false ∧ ny = true ∧ FloatKind.f64.format.order x y = none) ∨ (nx = false ∧ ny = false ∧ (∃ a b : Bool, (FloatKind.f64.format.order x y == some Ordering.eq) = a ∧ (FloatKind.f64.format.order x y == some Ordering.lt) = b ∧ ((a || b) = true → p1 ≤ p2))) := by
    cases nx
    · cases ny
      · refine .inr (.inr ⟨rfl, rfl, _, _, rfl, rfl, fun h => MO.out rfl rfl ?_⟩)
        obtain ⟨y1, y2, _⟩ := EQ.out rfl rfl
        rw [y1, y2] at h
        simp only [Bool.or_eq_true, decide_eq_true_eq] at h
        omega
      · exact .inr (.inl ⟨rfl, rfl, ON.out (.inr rfl)⟩)
    · exact .inl ⟨rfl, ON.out (.inl rfl)⟩
  clear hD hp1 hp2 hnx hny d z1 z2 z3 z4 z5 s1 s2 E1 E2 MO EQ ON n0 n1
  rcases K with ⟨rfl, o⟩ | ⟨rfl, rfl, o⟩ | ⟨rfl, rfl, a, b, ha, hb, hl⟩
  · cases ny
    all_goals
      simp only [if_true, Bool.false_eq_true, if_false] at G1 G2
      go_enter Tryd.func7, Tryd.ntmps7
      go_wp2_with fail
      refine HS.out.mono ?_
      rintro e w1 ⟨rfl, hb⟩
      have K1 := Lib.hid hb
      have D1 := Lib.hid (HD.out.later hb)
      clear hb HD
      go_wp2_with fail
      refine (G1.out _ D1.out).mono ?_
      rintro e w2 ⟨rfl, hb⟩
      have K2 := Lib.hid (bel_tr0 K1.out hb)
      have D2 := Lib.hid (D1.out.later hb)
      clear hb D1 K1
      go_wp2_with fail
      refine (G2.out _ D2.out).mono ?_
      rintro e w3 ⟨rfl, hb⟩
      have K3 := Lib.hid (bel_tr0 K2.out hb)
      have D3 := Lib.hid (D2.out.later hb)
      clear hb D2 K2
      go_wp2_with fail
      refine (G3.out _ D3.out).mono ?_
      rintro e w4 ⟨rfl, hb⟩
      have K4 := Lib.hid (bel_tr0 K3.out hb)
      clear hb D3 K3
      go_wp2_with fail
      go_returns
      exact ⟨rfl, K4.out⟩
  · simp only [if_true, Bool.false_eq_true, if_false] at G1 G2
    go_enter Tryd.func7, Tryd.ntmps7
    go_wp2_with fail
    refine HS.out.mono ?_
    rintro e w1 ⟨rfl, hb⟩
    have K1 := Lib.hid hb
    have D1 := Lib.hid (HD.out.later hb)
    clear hb HD
    go_wp2_with fail
    refine (G1.out _ D1.out).mono ?_
    rintro e w2 ⟨rfl, hb⟩
    have K2 := Lib.hid (bel_tr0 K1.out hb)
    have D2 := Lib.hid (D1.out.later hb)
    clear hb D1 K1
    go_wp2_with fail
    refine (G2.out _ D2.out).mono ?_
    rintro e w3 ⟨rfl, hb⟩
    have K3 := Lib.hid (bel_tr0 K2.out hb)
    have D3 := Lib.hid (D2.out.later hb)
    clear hb D2 K2
    go_wp2_with fail
    refine (G3.out _ D3.out).mono ?_
    rintro e w4 ⟨rfl, hb⟩
    have K4 := Lib.hid (bel_tr0 K3.out hb)
    clear hb D3 K3
    go_wp2_with fail
    go_returns
    exact ⟨rfl, K4.out⟩
  · simp only [if_true, Bool.false_eq_true, if_false] at G1 G2
    cases a <;> cases b
    · clear hl
      go_enter Tryd.func7, Tryd.ntmps7
      go_wp2_with fail
      refine HS.out.mono ?_
      rintro e w1 ⟨rfl, hb⟩
      have K1 := Lib.hid hb
      have D1 := Lib.hid (HD.out.later hb)
      clear hb HD
      go_wp2_with fail
      refine (G1.out _ D1.out).mono ?_
      rintro e w2 ⟨rfl, hb⟩
      have K2 := Lib.hid (bel_tr0 K1.out hb)
      have D2 := Lib.hid (D1.out.later hb)
      clear hb D1 K1
      go_wp2_with fail
      refine (G2.out _ D2.out).mono ?_
      rintro e w3 ⟨rfl, hb⟩
      have K3 := Lib.hid (bel_tr0 K2.out hb)
      have D3 := Lib.hid (D2.out.later hb)
      clear hb D2 K2
      go_wp2_with fail
      refine (G3.out _ D3.out).mono ?_
      rintro e w4 ⟨rfl, hb⟩
      have K4 := Lib.hid (bel_tr0 K3.out hb)
      clear hb D3 K3
      go_wp2_with fail
      go_returns
      exact ⟨rfl, K4.out⟩
    all_goals
      have l := hl rfl
      clear hl
      go_enter Tryd.func7, Tryd.ntmps7
      go_wp2_with fail
      refine HS.out.mono ?_
      rintro e w1 ⟨rfl, hb⟩
      have K1 := Lib.hid hb
      have D1 := Lib.hid (HD.out.later hb)
      clear hb HD
      go_wp2_with fail
      refine (G1.out _ D1.out).mono ?_
      rintro e w2 ⟨rfl, hb⟩
      have K2 := Lib.hid (bel_tr0 K1.out hb)
      have D2 := Lib.hid (D1.out.later hb)
      clear hb D1 K1
      go_wp2_with fail
      refine (G2.out _ D2.out).mono ?_
      rintro e w3 ⟨rfl, hb⟩
      have K3 := Lib.hid (bel_tr0 K2.out hb)
      have D3 := Lib.hid (D2.out.later hb)
      clear hb D2 K2
      go_wp2_with fail
      refine (G3.out _ D3.out).mono ?_
      rintro e w4 ⟨rfl, hb⟩
      have K4 := Lib.hid (bel_tr0 K3.out hb)
      clear hb D3 K3
      go_wp2_with fail
      go_returns
      exact ⟨rfl, K4.out⟩
end Go.Proofs.YtdccoebjcaemcaaRRRDoor
