/- WideDivides: its walk. -/
import Derived.Test.YtfhfackhiliejaaLawWide3
import Derived.Test.YtfhfackhiliejaaBigI
import Derived.Test.YtfhfackhiliejaaBigK
import Derived.WalkKit
import Derived.WalkSpells
import Derived.WalkLawsBesides
import Derived.Handy
import Derived.Lib.Hide
import Derived.Deep.QuietTactic
import Derived.BigQuiet
import Derived.Deep.RegionHeld3
import Derived.Deep.RegionWith
import Derived.RegionTactic
import Derived.BigRegion
import Derived.Outline
import Derived.Deep.DeepCutAuto
namespace Go.Proofs.Ytfhfackhiliejaa
open Go.RowKit Go.Proofs.Big
set_option linter.unusedVariables false
set_option linter.unusedSimpArgs false
theorem P50_big : 340282366920938463463374607431768211456 < P 50 := by
  have h : P 9 ≤ P 50 := P_mono (by decide)
  have e : P 9 = 22300745198530623141535718272648361505980416 := by unfold P; rfl
  omega
/-- the program's quotient and the reference's, and its rest, in memory -/
structure DQ (w wr : World) (x g k : Nat) (h l : Int) (ng : Bool) (a : Option Addr) (la ca : Nat) (mg : Bool) (b : Option Addr) (lb cb : Nat) (n m : Int) : Prop where
  X : WV wr x h l
  G : BV wr g ng a la ca
  K : BV wr k mg b lb cb
  Gn : BigV wr ng a la ca n
  Kn : BigV wr mg b lb cb m
  bel : Below w.heap.size w wr
theorem DQ.later {w wr wx : World} {x g k : Nat} {h l : Int} {ng mg : Bool} {a b : Option Addr} {la ca lb cb : Nat} {n m : Int} (q : DQ w wr x g k h l ng a la ca mg b lb cb n m) (hb : Below wr.heap.size wr wx) : DQ w wx x g k h l ng a la ca mg b lb cb n m :=
  ⟨q.X.later hb, q.G.later hb, q.K.later hb, q.Gn.later hb, q.Kn.later hb, bel_trans q.bel hb⟩
/-- the reference's quotient and rest, and what they are -/
theorem down_facts (x d : Int) (dz : d ≠ 0) (x0 : -170141183460469231731687303715884105728 ≤ x) (x1 : x < 170141183460469231731687303715884105728) :
    ∃ q r Q R : Int, Q = (if x < 0 then -x else x) / (if d < 0 then -d else d) ∧ R = (if x < 0 then -x else x) % (if d < 0 then -d else d) ∧
      ((decide (x < 0) == decide (d < 0)) = true → q = Q) ∧ ((decide (x < 0) == decide (d < 0)) = false → q = if R = 0 then -Q else -Q - 1) ∧
      r = x - q * d ∧ ((0 ≤ r ∧ r < d) ∨ (d < r ∧ r ≤ 0)) ∧ 0 ≤ Q ∧ Q ≤ 170141183460469231731687303715884105728 ∧
      -170141183460469231731687303715884105728 ≤ q ∧ q ≤ 170141183460469231731687303715884105728 ∧ (q = 170141183460469231731687303715884105728 → x = -170141183460469231731687303715884105728 ∧ d = -1) := by
  obtain ⟨X, hX⟩ : ∃ X, X = if x < 0 then -x else x := ⟨_, rfl⟩
  obtain ⟨m, hm⟩ : ∃ m, m = if d < 0 then -d else d := ⟨_, rfl⟩
  have m0 : 0 < m := by rw [hm]; split <;> omega
  have X0 : 0 ≤ X := by rw [hX]; split <;> omega
  have Xb : X ≤ 170141183460469231731687303715884105728 := by rw [hX]; split <;> omega
  obtain ⟨Q, hQ⟩ : ∃ Q, Q = X / m := ⟨_, rfl⟩
  obtain ⟨R, hR⟩ : ∃ R, R = X % m := ⟨_, rfl⟩
  have e : X = Q * m + R := by rw [hQ, hR, Int.mul_comm]; exact (Int.mul_ediv_add_emod X m).symm
  have R0 : 0 ≤ R := by rw [hR]; exact Int.emod_nonneg _ (by omega)
  have R1 : R < m := by rw [hR]; exact Int.emod_lt_of_pos _ m0
  have Q0 : 0 ≤ Q := by rw [hQ]; exact Int.ediv_nonneg X0 (by omega)
  have Qm : Q * 1 ≤ Q * m := Int.mul_le_mul_of_nonneg_left (by omega) Q0
  have Q2 : 2 ≤ m → Q * 2 ≤ Q * m := fun h => Int.mul_le_mul_of_nonneg_left h Q0
  rw [← hX, ← hm]
  by_cases s1 : x < 0 <;> by_cases s2 : d < 0
  · rw [if_pos s1] at hX
    rw [if_pos s2] at hm
    have e2 : Q * m = -(Q * d) := by rw [hm, Int.mul_neg]
    refine ⟨Q, x - Q * d, Q, R, hQ, hR, fun _ => rfl, fun h => ?_, rfl, by omega, Q0, by omega, by omega, by omega, fun h => ?_⟩
    · rw [decide_eq_true s1, decide_eq_true s2] at h; cases h
    · by_cases m2 : 2 ≤ m
      · have := Q2 m2; omega
      · have : m = 1 := by omega
        omega
  · rw [if_pos s1] at hX
    rw [if_neg s2] at hm
    have e2 : Q * m = Q * d := by rw [hm]
    by_cases Rz : R = 0
    · refine ⟨-Q, x - -Q * d, Q, R, hQ, hR, fun h => ?_, fun h => by rw [if_pos Rz], rfl, by rw [Int.neg_mul]; omega, Q0, by omega, by omega, by omega, fun h => by omega⟩
      rw [decide_eq_true s1, decide_eq_false s2] at h; cases h
    · have m2 := Q2 (by omega)
      refine ⟨-Q - 1, x - (-Q - 1) * d, Q, R, hQ, hR, fun h => ?_, fun h => by rw [if_neg Rz], rfl, by rw [Int.sub_mul, Int.neg_mul]; omega, Q0, by omega, by omega, by omega, fun h => by omega⟩
      rw [decide_eq_true s1, decide_eq_false s2] at h; cases h
  · rw [if_neg s1] at hX
    rw [if_pos s2] at hm
    have e2 : Q * m = -(Q * d) := by rw [hm, Int.mul_neg]
    by_cases Rz : R = 0
    · refine ⟨-Q, x - -Q * d, Q, R, hQ, hR, fun h => ?_, fun h => by rw [if_pos Rz], rfl, by rw [Int.neg_mul]; omega, Q0, by omega, by omega, by omega, fun h => by omega⟩
      rw [decide_eq_false s1, decide_eq_true s2] at h; cases h
    · have m2 := Q2 (by omega)
      refine ⟨-Q - 1, x - (-Q - 1) * d, Q, R, hQ, hR, fun h => ?_, fun h => by rw [if_neg Rz], rfl, by rw [Int.sub_mul, Int.neg_mul]; omega, Q0, by omega, by omega, by omega, fun h => by omega⟩
      rw [decide_eq_false s1, decide_eq_true s2] at h; cases h
  · rw [if_neg s1] at hX
    rw [if_neg s2] at hm
    have e2 : Q * m = Q * d := by rw [hm]
    refine ⟨Q, x - Q * d, Q, R, hQ, hR, fun _ => rfl, fun h => ?_, rfl, by omega, Q0, by omega, by omega, by omega, fun h => by omega⟩
    rw [decide_eq_false s1, decide_eq_false s2] at h; cases h
set_option maxRecDepth 100000 in
set_option maxHeartbeats 4000000 in
theorem law_divides (a b d : Int) (A0 : -9223372036854775808 ≤ a) (A1 : a ≤ 9223372036854775807) (B0 : 0 ≤ b) (B1 : b < 18446744073709551616) (D0 : -9223372036854775808 ≤ d) (D1 : d ≤ 9223372036854775807) (w : World) :
    Calls Try.prog 5 #[.agg #[.int .i64 a, .int .u64 b], .int .i64 d] w fun e w' => e = .returned (.bool true) ∧ Below w.heap.size w w' := by
  go_enter Try.func5, Try.ntmps5
  go_wp2_with fail
  refine (speaks1_any _).mono ?_
  rintro e w1 ⟨rfl, hb1⟩
  have X1 := Lib.hid ((WV.new w a b 38).later hb1)
  have K1 := Lib.hid (bel_trans (below_alloc w _) hb1)
  clear hb1
  obtain ⟨q0, q1⟩ := X1.out
  have n0 := X1.out.lt
  by_cases dz : d = 0
  · subst dz
    go_wp2_with fail
    refine (div_zero a b _).mono ?_
    rintro e w2 ⟨rfl, hb2⟩
    have K2 := Lib.hid hb2
    clear hb2
    go_wp2_with fail
    go_returns
    exact ⟨rfl, bel_trans (bel_trans (bel_trans K1.out (below_alloc _ _)) K2.out) (below_alloc _ _)⟩
  · obtain ⟨q, r, Q, R, hQ, hR, e0, e1, er, rr, Q0, Qb, q0', q1', qq⟩ := down_facts (a * 18446744073709551616 + b) d dz (by omega) (by omega)
    obtain ⟨f, dh, dl, dr, hf, HDV⟩ : ∃ (f : Bool) (dh dl dr : Int), ((f = true ∧ q < 170141183460469231731687303715884105728 ∧ dr = r ∧ dh * 18446744073709551616 + dl = q ∧ -9223372036854775808 ≤ dh ∧ dh ≤ 9223372036854775807 ∧ 0 ≤ dl ∧ dl < 18446744073709551616) ∨ (f = false ∧ q = 170141183460469231731687303715884105728 ∧ dr = 0 ∧ dh = 0 ∧ dl = 0)) ∧
        ∀ w : World, Calls Try.prog 28 #[.agg #[.int .i64 a, .int .u64 b], .int .i64 d] w fun e w' => e = .returned (.tuple #[.agg #[.int .i64 dh, .int .u64 dl], .int .i64 dr, .bool f]) ∧ Below w.heap.size w w' := by
      by_cases c : q = 170141183460469231731687303715884105728
      · obtain ⟨ex, rfl⟩ := qq c
        obtain rfl : a = -9223372036854775808 := by omega
        obtain rfl : b = 0 := by omega
        exact ⟨false, 0, 0, 0, .inr ⟨rfl, c, rfl, rfl, rfl⟩, fun w => div_min w⟩
      · obtain ⟨h, l, h0, h1, l0, l1, he⟩ := hl q q0' (by omega)
        exact ⟨true, h, l, r, .inl ⟨rfl, by omega, rfl, he, h0, h1, l0, l1⟩, fun w => div_ok a b d h l r A0 A1 B0 B1 D0 D1 dz h0 h1 l0 l1 (by rw [he, er]; omega) rr w⟩
    have HD := Lib.hid HDV
    have HF := Lib.hid hf
    have BD := Lib.hid (fun (ng mg : Bool) (a' b' : Option Addr) (la ca lb cb : Nat) (w : World) (ha : BigV w ng a' la ca (a * 18446744073709551616 + b)) (hb : BigV w mg b' lb cb d) =>
      bdown_any ng mg a' b' la ca lb cb (a * 18446744073709551616 + b) d q r Q R w ha hb
        (by have := P50_big; omega)
        (by have := P50_big; omega)
        (by have := P50_big; omega)
        (by have := P50_big; omega)
        dz hQ hR (fun h => e0 (by rw [← ha.hng, ← hb.hng]; exact h)) (fun h => e1 (by rw [← ha.hng, ← hb.hng]; exact h)) er (sm_of _ (by omega) (by omega)) (sm_of _ (by omega) (by omega)) (sm_of _ (by omega) (by omega)))
    have RB := Lib.hid (show -9223372036854775808 ≤ r ∧ r < 9223372036854775808 by omega)
    have QB := Lib.hid (And.intro q0' q1')
    clear HDV hf hQ hR e0 e1 er rr Q0 Qb q0' q1' qq
    go_wp2_with fail
    refine (HD.out _).mono ?_
    rintro e w2 ⟨rfl, hb2⟩
    have X2 := Lib.hid ((WV.new w1 a b 25).later hb2)
    have K2 := Lib.hid (bel_trans (bel_trans K1.out (below_alloc w1 (.cells #[.int .i64 a, .int .u64 b] 25))) hb2)
    clear hb2 q0 q1 n0 X1 K1
    obtain ⟨x0, x1⟩ := X2.out
    have n2 := X2.out.lt
    go_wp2_with fail
    refine (ofwide_any a b A0 A1 B0 B1 _).mono ?_
    rintro e w3 ⟨n3, a3, l3, c3, rfl, hv3, hb3⟩
    have H3 := Lib.hid hv3
    have Q3 := Lib.hid ((WV.new w2 dh dl 25).later hb3)
    have K3 := Lib.hid (bel_trans (bel_trans K2.out (below_alloc w2 (.cells #[.int .i64 dh, .int .u64 dl] 25))) hb3)
    clear hv3 hb3 x0 x1 X2 K2 n2
    go_wp2_with fail
    refine (bof_any d D0 D1 _).mono ?_
    rintro e w4 ⟨n4, a4, l4, c4, rfl, hv4, hb4⟩
    have H4 := Lib.hid hv4
    have H3' := Lib.hid (H3.out.later hb4)
    have Q4 := Lib.hid (Q3.out.later hb4)
    have K4 := Lib.hid (bel_trans K3.out hb4)
    clear hv4 hb4 H3 Q3 K3
    go_wp2_with fail
    refine (BD.out n3 n4 a3 a4 l3 c3 l4 c4 _ H3'.out H4.out).mono ?_
    rintro e w5 ⟨nq, aq, lq, cq, nr, ar, lr, cr, rfl, hv5, hr5, hb5⟩
    have Q5 := Q4.out.later hb5
    have n5 := Q5.lt
    have LQ := Lib.hid (Sm.le hv5 (sm_of q (by have := QB.out; omega) (by have := QB.out; omega)))
    have LR := Lib.hid (Sm.le hr5 (sm_of r (by have := RB.out; omega) (by have := RB.out; omega)))
    have D5 := Lib.hid (show DQ w ((w5.alloc (.cells #[.bool nq, .slice aq lq cq] 29)).alloc (.cells #[.bool nr, .slice ar lr cr] 29)) w2.heap.size w5.heap.size (w5.alloc (.cells #[.bool nq, .slice aq lq cq] 29)).heap.size dh dl nq aq lq cq nr ar lr cr q r from
      ⟨(Q5.later (below_alloc _ _)).later (below_alloc _ _), (BV.new w5 nq aq lq cq 29).alloc _, BV.new _ nr ar lr cr 29, (hv5.alloc _).alloc _, (hr5.alloc _).alloc _, bel_trans (bel_trans (bel_trans K4.out hb5) (below_alloc _ _)) (below_alloc _ _)⟩)
    simp only [World.size_alloc] at D5
    clear hv5 hr5 hb5 Q5 Q4 K4 H3' H4
    obtain ⟨x0, x1⟩ := D5.out.X
    obtain ⟨g0, g1, _, _⟩ := D5.out.G
    obtain ⟨k0, k1, _, _⟩ := D5.out.K
    go_wp2_with fail
    rcases HF.out with ⟨rfl, ql, rfl, hq, h0, h1, l0, l1⟩ | ⟨rfl, ql, rfl, rfl, rfl⟩
    · have HQ := Lib.hid hq
      clear hq
      refine (bfits_any nq aq lq cq q _ D5.out.Gn (by have := LQ.out; omega) true (Lib.hid (by rw [decide_eq_true (by have := QB.out; omega)]))).mono ?_
      rintro e w6 ⟨rfl, hb6⟩
      have D6 := Lib.hid (D5.out.later hb6)
      clear hb6 D5 x0 x1 g0 g1 k0 k1
      obtain ⟨x0, x1⟩ := D6.out.X
      obtain ⟨g0, g1, _, _⟩ := D6.out.G
      obtain ⟨k0, k1, _, _⟩ := D6.out.K
      go_wp2_with fail
      refine (bint_any nr ar lr cr dr _ D6.out.Kn (by have := LR.out; omega) true dr (Lib.hid (by rw [decide_eq_true (by have := RB.out; omega)])) (Lib.hid (by rw [if_pos (by have := RB.out; omega)]))).mono ?_
      rintro e w7 ⟨rfl, hb7⟩
      have D7 := Lib.hid (D6.out.later hb7)
      clear hb7 D6 x0 x1 g0 g1 k0 k1
      obtain ⟨x0, x1⟩ := D7.out.X
      obtain ⟨g0, g1, _, _⟩ := D7.out.G
      have SAME1 := Lib.hid (fun (ng : Bool) (a' : Option Addr) (la ca : Nat) (w : World) (hy : BigV w ng a' la ca q) (sa : la ≤ 1000) => (same_any dh dl q 0 h0 h1 l0 l1 ng a' la ca w hy sa))
      have E1 : (decide (dh * 18446744073709551616 + dl = q)) = true := decide_eq_true HQ.out
      rw [E1] at SAME1
      clear E1
      go_wp2_with fail
      refine (SAME1.out nq aq lq cq _ D7.out.Gn (by have := LQ.out; omega)).mono ?_
      rintro e w8 ⟨rfl, hb8⟩
      have D8 := Lib.hid (D7.out.later hb8)
      clear hb8 D7 x0 x1 g0 g1
      go_wp2_with fail
      go_returns
      exact ⟨rfl, D8.out.bel⟩
    · refine (bfits_any nq aq lq cq q _ D5.out.Gn (by have := LQ.out; omega) false (Lib.hid (by rw [decide_eq_false (by omega)]))).mono ?_
      rintro e w6 ⟨rfl, hb6⟩
      have D6 := Lib.hid (D5.out.later hb6)
      clear hb6 D5 x0 x1 g0 g1 k0 k1
      obtain ⟨x0, x1⟩ := D6.out.X
      go_wp2_with fail
      go_returns
      exact ⟨rfl, D6.out.bel⟩
end Go.Proofs.Ytfhfackhiliejaa
