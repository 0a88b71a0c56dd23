/- The reference's fractions: Ints, Good, Down, Half. -/
import Derived.Test.YtkohefgendcofaaRefB
import Derived.Test.YtkohefgendcofaaBigK
import Derived.Test.YtkohefgendcofaaRatioB
import Derived.WalkKit
import Derived.WalkSpells
import Derived.WalkLawsBesides
import Derived.Handy
import Derived.Lib.Hide
import Derived.Deep.QuietTactic
import Derived.BigQuiet
import Derived.LoopTactic
import Derived.RegionTactic
import Derived.BigRegion
import Derived.Deep.RegionHeld3
import Derived.Deep.RegionWith
import Derived.Outline
import Derived.Deep.DeepCutAuto
namespace Go.Proofs.Ytkohefgendcofaa
open Go.RowKit Go.Proofs.Big Go.Proofs.Reg
set_option linter.unusedVariables false
set_option linter.unusedSimpArgs false
set_option maxRecDepth 100000
theorem ints_any (ng mg : Bool) (a b : Option Addr) (la ca lb cb : Nat) (n m : Int) (w : World) (ha : BigV w ng a la ca n) (hb : BigV w mg b lb cb m) (sa : la ≤ 1000) (sb : lb ≤ 1000) (fn fm : Bool) (kn km : Int)
    (h1 : Hid (fn = decide (-9223372036854775808 ≤ n ∧ n < 9223372036854775808))) (h2 : Hid (kn = if -9223372036854775808 ≤ n ∧ n < 9223372036854775808 then n else 0))
    (h3 : Hid (fm = decide (-9223372036854775808 ≤ m ∧ m < 9223372036854775808))) (h4 : Hid (km = if -9223372036854775808 ≤ m ∧ m < 9223372036854775808 then m else 0)) :
    Calls Try.prog 26 #[.agg #[.bool ng, .slice a la ca], .agg #[.bool mg, .slice b lb cb]] w fun e w' => e = .returned (.tuple #[.int .i64 kn, .int .i64 km, .bool (fn && fm)]) ∧ Below w.heap.size w w' := by
  have HA := Lib.hid ha
  have HB := Lib.hid hb
  clear ha hb
  go_enter Try.func26, Try.ntmps26
  go_wp2_with fail
  refine (bint_any ng a la ca n _ ((HA.out.alloc _).alloc _) sa fn kn h1 h2).mono ?_
  rintro e w1 ⟨rfl, hb1⟩
  have B2 := Lib.hid ((BV.new (w.alloc (.cells #[.bool ng, .slice a la ca] 29)) mg b lb cb 29).later hb1)
  simp only [World.size_alloc] at B2
  have K1 := Lib.hid (bel_trans (by go_grown : Below w.heap.size w _) hb1)
  have V1 := Lib.hid (((HB.out.alloc _).alloc _).later hb1)
  clear hb1
  obtain ⟨k0, k1, _, _⟩ := B2.out
  have n1 := B2.out.lt
  go_wp2_with fail
  refine (bint_any mg b lb cb m _ V1.out sb fm km h3 h4).mono ?_
  rintro e w2 ⟨rfl, hb2⟩
  have K2 := Lib.hid (bel_trans K1.out hb2)
  clear hb2
  cases fn <;> cases fm
  all_goals
    go_wp2_with fail
    go_returns
    exact ⟨rfl, K2.out⟩
/-- Down by a number above 0 -/
theorem bdown_pos (ng : Bool) (a b : Option Addr) (la ca lb cb : Nat) (n m : Int) (w : World) (ha : BigV w ng a la ca n) (hb : BigV w false b lb cb m) (n0 : -P 98 < n) (n1 : n < P 98) (m0 : 0 < m) (m1 : m < P 98) :
    Calls Try.prog 78 #[.agg #[.bool ng, .slice a la ca], .agg #[.bool false, .slice b lb cb]] w (RetBig2 w (n / m) (n % m)) := by
  have e99 : P 99 = 65536 * P 98 := P_succ 98
  have e100 : P 100 = 65536 * P 99 := P_succ 99
  have p98 := P_pos 98
  by_cases c : n < 0
  · have f := quo_le (n := -n) (m := m) (by omega) m0
    have q0 : -n / m ≤ -n := f.2.1
    have e1 := Int.mul_ediv_add_emod n m
    have e2 := Int.mul_ediv_add_emod (-n) m
    have r0 := Int.emod_nonneg n (show m ≠ 0 by omega)
    have r1 := Int.emod_lt_of_pos n m0
    have s0 := Int.emod_nonneg (-n) (show m ≠ 0 by omega)
    have s1 := Int.emod_lt_of_pos (-n) m0
    have key : n / m = if -n % m = 0 then -(-n / m) else -(-n / m) - 1 := by
      by_cases z : -n % m = 0
      · rw [if_pos z]
        exact ((Int.ediv_emod_unique (a := n) (r := 0) (q := -(-n / m)) m0).2 ⟨by rw [Int.mul_neg]; omega, by omega, by omega⟩).1
      · rw [if_neg z]
        exact ((Int.ediv_emod_unique (a := n) (r := m - -n % m) (q := -(-n / m) - 1) m0).2 ⟨by rw [Int.mul_sub, Int.mul_neg]; omega, by omega, by omega⟩).1
    have qb : -P 98 - 1 ≤ n / m ∧ n / m ≤ 0 := by rw [key]; split <;> omega
    have pc : n / m * m = m * (n / m) := Int.mul_comm _ _
    refine bdown_any ng false a b la ca lb cb n m (n / m) (n % m) (-n / m) (-n % m) w ha hb (by omega) (by omega) (by omega) (by omega) (by omega) (by rw [if_pos c, if_neg (by omega)]) (by rw [if_pos c, if_neg (by omega)]) (fun h => ?_) (fun h => key) (by omega) ?_ ?_ ?_
    · have := ha.hng
      rw [decide_eq_true c] at this
      rw [this] at h
      simp at h
    all_goals (unfold Sm; omega)
  · have f := quo_le (n := n) (m := m) (by omega) m0
    refine bdown_any ng false a b la ca lb cb n m (n / m) (n % m) (n / m) (n % m) w ha hb (by omega) (by omega) (by omega) (by omega) (by omega) (by rw [if_neg c, if_neg (by omega)]) (by rw [if_neg c, if_neg (by omega)]) (fun _ => rfl) (fun h => ?_) (by omega) ?_ ?_ ?_
    · have := ha.hng
      rw [decide_eq_false c] at this
      rw [this] at h
      simp at h
    all_goals (unfold Sm; omega)
theorem P98_big : 170141183460469231731687303715884105728 * 4 < P 98 := by
  have h : P 9 ≤ P 98 := P_mono (by decide)
  have e : P 9 = 22300745198530623141535718272648361505980416 := by unfold P; rfl
  omega
set_option maxHeartbeats 2000000 in
theorem r2down_any (x n d : Int) (x0 : -9223372036854775808 ≤ x) (x1 : x ≤ 9223372036854775807) (n0 : -9223372036854775808 ≤ n) (n1 : n ≤ 9223372036854775807) (d0 : 1 ≤ d) (d1 : d ≤ 9223372036854775807) (w : World) :
    Calls Try.prog 35 #[.int .i64 x, .int .i64 n, .int .i64 d] w (RetBig w (x * n / d)) := by
  have PR := Lib.hid (prod_range x n x0 x1 n0 n1)
  have SX := Lib.hid (sm_of x (by omega) (by omega))
  have SN := Lib.hid (sm_of n (by omega) (by omega))
  go_enter Try.func35, Try.ntmps35
  go_wp2_with fail
  refine (bof_any x x0 x1 _).mono ?_
  rintro e w1 ⟨ng1, a1, l1, c1, rfl, hv1, hb1⟩
  have H1 := Lib.hid hv1
  have R1 := Lib.hid ((BV.new w false none 0 0 29).later hb1)
  have K1 := Lib.hid (bel_trans (bel_alloc (Below.refl _ _) _) hb1)
  clear hv1 hb1
  go_wp2_with fail
  refine (bof_any n n0 n1 _).mono ?_
  rintro e w2 ⟨ng2, a2, l2, c2, rfl, hv2, hb2⟩
  have H2 := Lib.hid hv2
  have H1' := Lib.hid (H1.out.later hb2)
  have R2 := Lib.hid (R1.out.later hb2)
  have K2 := Lib.hid (bel_trans K1.out hb2)
  clear hv2 hb2 H1 R1 K1
  go_wp2_with fail
  refine (times_any ng1 ng2 a1 a2 l1 c1 l2 c2 x n _ H1'.out H2.out (Nat.le_trans (Sm.le H1'.out SX.out) (by decide)) (Nat.le_trans (Sm.le H2.out SN.out) (by decide))).mono ?_
  rintro e w3 ⟨ng3, a3, l3, c3, rfl, hv3, hb3⟩
  have H3 := Lib.hid hv3
  have R3 := Lib.hid (R2.out.later hb3)
  have K3 := Lib.hid (bel_trans K2.out hb3)
  clear hv3 hb3 H1' H2 R2 K2
  go_wp2_with fail
  refine (bof_any d (by omega) d1 _).mono ?_
  rintro e w4 ⟨ng4, a4, l4, c4, rfl, hv4, hb4⟩
  obtain rfl : ng4 = false := by
    have := hv4.hng
    rw [decide_eq_false (by omega)] at this
    exact this
  have H4 := Lib.hid hv4
  have H3' := Lib.hid (H3.out.later hb4)
  have R4 := Lib.hid (R3.out.later hb4)
  have K4 := Lib.hid (bel_trans K3.out hb4)
  clear hv4 hb4 H3 R3 K3
  go_wp2_with fail
  refine (bdown_pos ng3 a3 a4 l3 c3 l4 c4 (x * n) d _ H3'.out H4.out (by have := P98_big; have := PR.out; omega) (by have := P98_big; have := PR.out; omega) (by omega) (by have := P98_big; omega)).mono ?_
  rintro e w5 ⟨ng5, a5, l5, c5, ng6, a6, l6, c6, rfl, hv5, hv6, hb5⟩
  have R5 := Lib.hid (R4.out.later hb5)
  have V5 := Lib.hid hv5
  have K5 := Lib.hid (bel_trans K4.out hb5)
  obtain ⟨k0, k1, k2, k3⟩ := R4.out.later hb5
  have n5 := (R4.out.later hb5).lt
  clear hv5 hv6 hb5 H3' H4 R4 K4
  go_wp2_with fail
  refine bodyPost_ret (v := .agg #[.bool ng5, .slice a5 l5 c5]) (by simp [results, Try.results35, go_sem, k0, k1, k2, k3, n5]) rfl ?_
  exact RetBig.mk (((V5.out.setBV R5.out _ _).alloc _).alloc _) (bel_alloc (bel_alloc ((K5.out.setCell (by show w.heap.size ≤ w.heap.size; omega) _).setCell (by show w.heap.size ≤ w.heap.size; omega) _) _) _)
/-- lowest terms of two ints, as the reference has them -/
structure Low2 (n d g : Int) : Prop where
  hg : ((Int.gcd n d : Nat) : Int) = g
  gp : 1 ≤ g
  eN : (if (decide (n < 0) != decide (d < 0)) = true then -((if n < 0 then -n else n) / g) else (if n < 0 then -n else n) / g) * g = if d < 0 then -n else n
  eD : ((if d < 0 then -d else d) / g) * g = if d < 0 then -d else d
theorem low2 (n d : Int) (dz : d ≠ 0) : Low2 n d ((Int.gcd n d : Nat) : Int) := by
  have gp : 0 < Int.gcd n d := Int.gcd_pos_of_ne_zero_right n dz
  have g1 : (1 : Int) ≤ ((Int.gcd n d : Nat) : Int) := by omega
  have dn : ((Int.gcd n d : Nat) : Int) ∣ (if n < 0 then -n else n) := by
    have := Int.gcd_dvd_left (a := n) (b := d)
    split
    · exact (Int.dvd_neg).2 this
    · exact this
  have dd : ((Int.gcd n d : Nat) : Int) ∣ (if d < 0 then -d else d) := by
    have := Int.gcd_dvd_right (a := n) (b := d)
    split
    · exact (Int.dvd_neg).2 this
    · exact this
  have e1 := Int.ediv_mul_cancel dn
  have e2 := Int.ediv_mul_cancel dd
  refine ⟨rfl, g1, ?_, e2⟩
  by_cases a : n < 0 <;> by_cases b : d < 0
  · rw [decide_eq_true a, decide_eq_true b, if_pos b]
    rw [if_pos a] at e1 ⊢
    simpa using e1
  · rw [decide_eq_true a, decide_eq_false b, if_neg b]
    rw [if_pos a] at e1 ⊢
    simp only [bne_self_eq_false, Bool.true_bne, Bool.not_false, if_true, Int.neg_mul]
    omega
  · rw [decide_eq_false a, decide_eq_true b, if_pos b]
    rw [if_neg a] at e1 ⊢
    simp only [Bool.false_bne, if_true, Int.neg_mul]
    omega
  · rw [decide_eq_false a, decide_eq_false b, if_neg b]
    rw [if_neg a] at e1 ⊢
    simpa using e1
/-- of two ints: Lowest, with what it hands on -/
theorem lowest_ints (ng mg : Bool) (a b : Option Addr) (la ca lb cb : Nat) (n d N D g : Int) (w : World) (ha : BigV w ng a la ca n) (hb : BigV w mg b lb cb d) (n0 : -9223372036854775808 ≤ n) (n1 : n ≤ 9223372036854775807) (d0 : -9223372036854775808 ≤ d) (d1 : d ≤ 9223372036854775807) (L : Lowest n d g N D) :
    Calls Try.prog 27 #[.agg #[.bool ng, .slice a la ca], .agg #[.bool mg, .slice b lb cb]] w (RetBig2 w N D) := by
  have h9 : (9223372036854775808 : Int) < P 99 := by
    have h : P 4 ≤ P 99 := P_mono (by decide)
    have e : P 4 = 18446744073709551616 := by unfold P; rfl
    omega
  have := lowest_any ng mg a b la ca lb cb n d w ha hb (Lib.hid ⟨by omega, by omega, by omega, by omega, L.dz⟩)
  have F := low2 n d L.dz
  rw [L.hg] at this F
  have g1 := L.gpos
  rw [ha.hng, hb.hng] at this
  have e1 : (if (decide (n < 0) != decide (d < 0)) = true then -((if n < 0 then -n else n) / g) else (if n < 0 then -n else n) / g) = N := Int.eq_of_mul_eq_mul_right (show g ≠ 0 by omega) (by rw [F.eN, L.eN])
  have e2 : (if d < 0 then -d else d) / g = D := Int.eq_of_mul_eq_mul_right (show g ≠ 0 by omega) (by rw [F.eD, L.eD])
  rw [e1, e2, ← ha.hng, ← hb.hng] at this
  exact this
end Go.Proofs.Ytkohefgendcofaa
