/- The reference's fractions: Ints, Good, Down, Half. -/
import Derived.Test.YtbolifjkhoiphaaRefA
import Derived.Test.YtbolifjkhoiphaaBigH
import Derived.Test.YtbolifjkhoiphaaRatioB
import Derived.WalkKit
import Derived.WalkSpells
import Derived.WalkLawsBesides
import Derived.Handy
import Derived.Lib.Hide
import Derived.Deep.QuietTactic
import Derived.BigQuiet
import Derived.LoopTactic
import Derived.RegionTactic
import Derived.BigRegion
import Derived.Deep.RegionHeld3
import Derived.Deep.RegionWith
import Derived.Outline
import Derived.Deep.DeepCutAuto
namespace Go.Proofs.Ytbolifjkhoiphaa
open Go.RowKit Go.Proofs.Big Go.Proofs.Reg
set_option linter.unusedVariables false
set_option linter.unusedSimpArgs false
set_option maxRecDepth 100000
theorem ints_any (ng mg : Bool) (a b : Option Addr) (la ca lb cb : Nat) (n m : Int) (w : World) (ha : BigV w ng a la ca n) (hb : BigV w mg b lb cb m) (sa : la ≤ 1000) (sb : lb ≤ 1000) (fn fm : Bool) (kn km : Int)
    (h1 : Hid (fn = decide (-9223372036854775808 ≤ n ∧ n < 9223372036854775808))) (h2 : Hid (kn = if -9223372036854775808 ≤ n ∧ n < 9223372036854775808 then n else 0))
    (h3 : Hid (fm = decide (-9223372036854775808 ≤ m ∧ m < 9223372036854775808))) (h4 : Hid (km = if -9223372036854775808 ≤ m ∧ m < 9223372036854775808 then m else 0)) :
    Calls Try.prog 92 #[.agg #[.bool ng, .slice a la ca], .agg #[.bool mg, .slice b lb cb]] w fun e w' => e = .returned (.tuple #[.int .i64 kn, .int .i64 km, .bool (fn && fm)]) ∧ Below w.heap.size w w' := by
  have HA := Lib.hid ha
  have HB := Lib.hid hb
  clear ha hb
  go_enter Try.func92, Try.ntmps92
  go_wp2_with fail
  refine (bint_any ng a la ca n _ ((HA.out.alloc _).alloc _) sa fn kn h1 h2).mono ?_
  rintro e w1 ⟨rfl, hb1⟩
  have B2 := Lib.hid ((BV.new (w.alloc (.cells #[.bool ng, .slice a la ca] 112)) mg b lb cb 112).later hb1)
  simp only [World.size_alloc] at B2
  have K1 := Lib.hid (bel_trans (by go_grown : Below w.heap.size w _) hb1)
  have V1 := Lib.hid (((HB.out.alloc _).alloc _).later hb1)
  clear hb1
  obtain ⟨k0, k1, _, _⟩ := B2.out
  have n1 := B2.out.lt
  go_wp2_with fail
  refine (bint_any mg b lb cb m _ V1.out sb fm km h3 h4).mono ?_
  rintro e w2 ⟨rfl, hb2⟩
  have K2 := Lib.hid (bel_trans K1.out hb2)
  clear hb2
  cases fn <;> cases fm
  all_goals
    go_wp2_with fail
    go_returns
    exact ⟨rfl, K2.out⟩
/-- Down by a number above 0 -/
theorem bdown_pos (ng : Bool) (a b : Option Addr) (la ca lb cb : Nat) (n m : Int) (w : World) (ha : BigV w ng a la ca n) (hb : BigV w false b lb cb m) (n0 : -P 98 < n) (n1 : n < P 98) (m0 : 0 < m) (m1 : m < P 98) :
    Calls Try.prog 89 #[.agg #[.bool ng, .slice a la ca], .agg #[.bool false, .slice b lb cb]] w (RetBig2 w (n / m) (n % m)) := by
  have e99 : P 99 = 65536 * P 98 := P_succ 98
  have e100 : P 100 = 65536 * P 99 := P_succ 99
  have p98 := P_pos 98
  by_cases c : n < 0
  · have f := quo_le (n := -n) (m := m) (by omega) m0
    have q0 : -n / m ≤ -n := f.2.1
    have e1 := Int.mul_ediv_add_emod n m
    have e2 := Int.mul_ediv_add_emod (-n) m
    have r0 := Int.emod_nonneg n (show m ≠ 0 by omega)
    have r1 := Int.emod_lt_of_pos n m0
    have s0 := Int.emod_nonneg (-n) (show m ≠ 0 by omega)
    have s1 := Int.emod_lt_of_pos (-n) m0
    have key : n / m = if -n % m = 0 then -(-n / m) else -(-n / m) - 1 := by
      by_cases z : -n % m = 0
      · rw [if_pos z]
        exact ((Int.ediv_emod_unique (a := n) (r := 0) (q := -(-n / m)) m0).2 ⟨by rw [Int.mul_neg]; omega, by omega, by omega⟩).1
      · rw [if_neg z]
        exact ((Int.ediv_emod_unique (a := n) (r := m - -n % m) (q := -(-n / m) - 1) m0).2 ⟨by rw [Int.mul_sub, Int.mul_neg]; omega, by omega, by omega⟩).1
    have qb : -P 98 - 1 ≤ n / m ∧ n / m ≤ 0 := by rw [key]; split <;> omega
    have pc : n / m * m = m * (n / m) := Int.mul_comm _ _
    refine bdown_any ng false a b la ca lb cb n m (n / m) (n % m) (-n / m) (-n % m) w ha hb (by omega) (by omega) (by omega) (by omega) (by omega) (by rw [if_pos c, if_neg (by omega)]) (by rw [if_pos c, if_neg (by omega)]) (fun h => ?_) (fun h => key) (by omega) ?_ ?_ ?_
    · have := ha.hng
      rw [decide_eq_true c] at this
      rw [this] at h
      simp at h
    all_goals (unfold Sm; omega)
  · have f := quo_le (n := n) (m := m) (by omega) m0
    refine bdown_any ng false a b la ca lb cb n m (n / m) (n % m) (n / m) (n % m) w ha hb (by omega) (by omega) (by omega) (by omega) (by omega) (by rw [if_neg c, if_neg (by omega)]) (by rw [if_neg c, if_neg (by omega)]) (fun _ => rfl) (fun h => ?_) (by omega) ?_ ?_ ?_
    · have := ha.hng
      rw [decide_eq_false c] at this
      rw [this] at h
      simp at h
    all_goals (unfold Sm; omega)
theorem P98_big : 170141183460469231731687303715884105728 * 4 < P 98 := by
  have h : P 9 ≤ P 98 := P_mono (by decide)
  have e : P 9 = 22300745198530623141535718272648361505980416 := by unfold P; rfl
  omega
/-- lowest terms of two ints, as the reference has them -/
structure Low2 (n d g : Int) : Prop where
  hg : ((Int.gcd n d : Nat) : Int) = g
  gp : 1 ≤ g
  eN : (if (decide (n < 0) != decide (d < 0)) = true then -((if n < 0 then -n else n) / g) else (if n < 0 then -n else n) / g) * g = if d < 0 then -n else n
  eD : ((if d < 0 then -d else d) / g) * g = if d < 0 then -d else d
theorem low2 (n d : Int) (dz : d ≠ 0) : Low2 n d ((Int.gcd n d : Nat) : Int) := by
  have gp : 0 < Int.gcd n d := Int.gcd_pos_of_ne_zero_right n dz
  have g1 : (1 : Int) ≤ ((Int.gcd n d : Nat) : Int) := by omega
  have dn : ((Int.gcd n d : Nat) : Int) ∣ (if n < 0 then -n else n) := by
    have := Int.gcd_dvd_left (a := n) (b := d)
    split
    · exact (Int.dvd_neg).2 this
    · exact this
  have dd : ((Int.gcd n d : Nat) : Int) ∣ (if d < 0 then -d else d) := by
    have := Int.gcd_dvd_right (a := n) (b := d)
    split
    · exact (Int.dvd_neg).2 this
    · exact this
  have e1 := Int.ediv_mul_cancel dn
  have e2 := Int.ediv_mul_cancel dd
  refine ⟨rfl, g1, ?_, e2⟩
  by_cases a : n < 0 <;> by_cases b : d < 0
  · rw [decide_eq_true a, decide_eq_true b, if_pos b]
    rw [if_pos a] at e1 ⊢
    simpa using e1
  · rw [decide_eq_true a, decide_eq_false b, if_neg b]
    rw [if_pos a] at e1 ⊢
    simp only [bne_self_eq_false, Bool.true_bne, Bool.not_false, if_true, Int.neg_mul]
    omega
  · rw [decide_eq_false a, decide_eq_true b, if_pos b]
    rw [if_neg a] at e1 ⊢
    simp only [Bool.false_bne, if_true, Int.neg_mul]
    omega
  · rw [decide_eq_false a, decide_eq_false b, if_neg b]
    rw [if_neg a] at e1 ⊢
    simpa using e1
/-- of two ints: Lowest, with what it hands on -/
theorem lowest_ints (ng mg : Bool) (a b : Option Addr) (la ca lb cb : Nat) (n d N D g : Int) (w : World) (ha : BigV w ng a la ca n) (hb : BigV w mg b lb cb d) (n0 : -9223372036854775808 ≤ n) (n1 : n ≤ 9223372036854775807) (d0 : -9223372036854775808 ≤ d) (d1 : d ≤ 9223372036854775807) (L : Lowest n d g N D) :
    Calls Try.prog 91 #[.agg #[.bool ng, .slice a la ca], .agg #[.bool mg, .slice b lb cb]] w (RetBig2 w N D) := by
  have h9 : (9223372036854775808 : Int) < P 99 := by
    have h : P 4 ≤ P 99 := P_mono (by decide)
    have e : P 4 = 18446744073709551616 := by unfold P; rfl
    omega
  have := lowest_any ng mg a b la ca lb cb n d w ha hb (Lib.hid ⟨by omega, by omega, by omega, by omega, L.dz⟩)
  have F := low2 n d L.dz
  rw [L.hg] at this F
  have g1 := L.gpos
  rw [ha.hng, hb.hng] at this
  have e1 : (if (decide (n < 0) != decide (d < 0)) = true then -((if n < 0 then -n else n) / g) else (if n < 0 then -n else n) / g) = N := Int.eq_of_mul_eq_mul_right (show g ≠ 0 by omega) (by rw [F.eN, L.eN])
  have e2 : (if d < 0 then -d else d) / g = D := Int.eq_of_mul_eq_mul_right (show g ≠ 0 by omega) (by rw [F.eD, L.eD])
  rw [e1, e2, ← ha.hng, ← hb.hng] at this
  exact this
end Go.Proofs.Ytbolifjkhoiphaa
