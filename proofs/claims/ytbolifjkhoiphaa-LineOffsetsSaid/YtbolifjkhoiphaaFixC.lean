/- Parts, scaled numbers: the program's and the reference's; arrays of three compared. -/
import Derived.Test.YtbolifjkhoiphaaLen
import Derived.Test.YtbolifjkhoiphaaBut
import Derived.Test.YtbolifjkhoiphaaLawRatioM
import Derived.WalkKit
import Derived.WalkSpells
import Derived.WalkLawsBesides
import Derived.Handy
import Derived.Lib.Hide
import Derived.ChangeKeysEq
import Derived.Deep.QuietTactic
import Derived.BigQuiet
import Derived.LoopTactic
import Derived.RegionTactic
import Derived.BigRegion
import Derived.Deep.RegionHeld3
import Derived.Deep.RegionWith
import Derived.Outline
import Derived.Deep.DeepCutAuto
namespace Go.Proofs.Ytbolifjkhoiphaa
open Go.RowKit Go.Proofs.Big Go.Proofs.Reg
set_option linter.unusedVariables false
set_option linter.unusedSimpArgs false
set_option maxRecDepth 100000
/-- rounding down, as the reference does it -/
structure DF (x d q r Q R : Int) : Prop where
  dz : d ≠ 0
  hQ : Q = (if x < 0 then -x else x) / (if d < 0 then -d else d)
  hR : R = (if x < 0 then -x else x) % (if d < 0 then -d else d)
  e0 : (decide (x < 0) == decide (d < 0)) = true → q = Q
  e1 : (decide (x < 0) == decide (d < 0)) = false → q = if R = 0 then -Q else -Q - 1
  er : r = x - q * d
  rr : (0 ≤ r ∧ r < d) ∨ (d < r ∧ r ≤ 0)
  Q0 : 0 ≤ Q
  Q1 : Q ≤ 170141183460469231731687303715884105728
  q0 : -170141183460469231731687303715884105728 ≤ q
  q1 : q ≤ 170141183460469231731687303715884105728
theorem df_ex (x d : Int) (dz : d ≠ 0) (x0 : -170141183460469231731687303715884105728 ≤ x) (x1 : x < 170141183460469231731687303715884105728) : ∃ q r Q R, DF x d q r Q R := by
  obtain ⟨q, r, Q, R, a, b, c, e, f, g, h, i, j, k, _⟩ := down_facts x d dz x0 x1
  exact ⟨q, r, Q, R, dz, a, b, c, e, f, g, h, i, j, k⟩
set_option maxHeartbeats 2000000 in
theorem part4_zero (a n : Int) (w : World) :
    Calls Try.prog 78 #[.int .i64 a, .int .i64 n, .int .i64 0] w fun e w' => e = .returned (.tuple #[.int .i64 0, .int .i64 3]) ∧ Below w.heap.size w w' := by
  go_enter Try.func78, Try.ntmps78
  go_wp2_with fail
  go_returns
  exact ⟨rfl, Below.refl _ _⟩
set_option maxHeartbeats 2000000 in
theorem part4_any (x n d q r Q R v er : Int) (x0 : -9223372036854775808 ≤ x) (x1 : x ≤ 9223372036854775807) (n0 : -9223372036854775808 ≤ n) (n1 : n ≤ 9223372036854775807) (d0 : -9223372036854775808 ≤ d) (d1 : d ≤ 9223372036854775807) (F : DF (x * n) d q r Q R) (ht : Tl q v er) (w : World) :
    Calls Try.prog 78 #[.int .i64 x, .int .i64 n, .int .i64 d] w fun e w' => e = .returned (.tuple #[.int .i64 v, .int .i64 er]) ∧ Below w.heap.size w w' := by
  have PR := Lib.hid (prod_range x n x0 x1 n0 n1)
  have SX := Lib.hid (sm_of x (by omega) (by omega))
  have SN := Lib.hid (sm_of n (by omega) (by omega))
  have FF := Lib.hid F
  have HT := Lib.hid ht
  have dzb : (d == 0) = false := by simpa using F.dz
  have SQ := Lib.hid (sm_of q (by have := F.q0; omega) (by have := F.q1; omega))
  have SR := Lib.hid (sm_of Q (by have := F.Q0; omega) (by have := F.Q1; omega))
  have SM : Hid (Sm (q * d)) := Lib.hid (by
    have e := F.er
    have rr := F.rr
    have p := PR.out
    obtain ⟨y, hy⟩ : ∃ y, y = q * d := ⟨_, rfl⟩
    obtain ⟨z, hz⟩ : ∃ z, z = x * n := ⟨_, rfl⟩
    rw [← hy, ← hz] at e
    rw [← hz] at p
    rw [← hy]
    exact sm_of y (by omega) (by omega))
  have PB : Hid (-P 99 < x * n ∧ x * n < P 99 ∧ -P 99 < d ∧ d < P 99) := Lib.hid (by have := P50_big; have := PR.out; exact ⟨by omega, by omega, by omega, by omega⟩)
  clear F ht
  go_enter Try.func78, Try.ntmps78
  go_wp2_with fail
  refine (bof_any x x0 x1 _).mono ?_
  rintro e w1 ⟨ng1, a1, l1, c1, rfl, hv1, hb1⟩
  have H1 := Lib.hid hv1
  have K1 := Lib.hid hb1
  clear hv1 hb1
  go_wp2_with fail
  refine (bof_any n n0 n1 _).mono ?_
  rintro e w2 ⟨ng2, a2, l2, c2, rfl, hv2, hb2⟩
  have H2 := Lib.hid hv2
  have H1' := Lib.hid (H1.out.later hb2)
  have K2 := Lib.hid (bel_trans K1.out hb2)
  clear hv2 hb2 H1 K1
  go_wp2_with fail
  refine (times_any ng1 ng2 a1 a2 l1 c1 l2 c2 x n _ H1'.out H2.out (Nat.le_trans (Sm.le H1'.out SX.out) (by decide)) (Nat.le_trans (Sm.le H2.out SN.out) (by decide))).mono ?_
  rintro e w3 ⟨ng3, a3, l3, c3, rfl, hv3, hb3⟩
  have H3 := Lib.hid hv3
  have K3 := Lib.hid (bel_trans K2.out hb3)
  clear hv3 hb3 H1' H2 K2
  go_wp2_with fail
  refine (bof_any d d0 d1 _).mono ?_
  rintro e w4 ⟨ng4, a4, l4, c4, rfl, hv4, hb4⟩
  have H4 := Lib.hid hv4
  have H3' := Lib.hid (H3.out.later hb4)
  have K4 := Lib.hid (bel_trans K3.out hb4)
  clear hv4 hb4 H3 K3
  go_wp2_with fail
  refine (bdown_any ng3 ng4 a3 a4 l3 c3 l4 c4 (x * n) d q r Q R _ H3'.out H4.out PB.out.1 PB.out.2.1 PB.out.2.2.1 PB.out.2.2.2 FF.out.dz FF.out.hQ FF.out.hR (by rw [H3'.out.hng, H4.out.hng]; exact FF.out.e0) (by rw [H3'.out.hng, H4.out.hng]; exact FF.out.e1) FF.out.er SQ.out SM.out SR.out).mono ?_
  rintro e w5 ⟨ng5, a5, l5, c5, ng6, a6, l6, c6, rfl, hv5, hv6, hb5⟩
  have H5 := Lib.hid ((hv5.alloc (.cells #[.bool ng5, .slice a5 l5 c5] 112)).alloc (.cells #[.bool ng6, .slice a6 l6 c6] 112))
  have K5 := Lib.hid (bel_alloc (bel_alloc (bel_trans K4.out hb5) (.cells #[.bool ng5, .slice a5 l5 c5] 112)) (.cells #[.bool ng6, .slice a6 l6 c6] 112))
  clear hv5 hv6 hb5 H3' H4 K4
  go_wp2_with fail
  refine (told4_any ng5 a5 l5 c5 q v er _ H5.out (Nat.le_trans (Sm.le H5.out SQ.out) (by decide)) HT.out).mono ?_
  rintro e w6 ⟨rfl, hb6⟩
  have K6 := Lib.hid (bel_trans K5.out hb6)
  clear hb6
  go_wp2_with fail
  go_returns
  exact ⟨rfl, K6.out⟩
/-- a number, or giving up -/
def Ends (v er : Int) (e : Ending) : Prop := (er = 0 ∧ e = .returned (.int .i64 v)) ∨ (er ≠ 0 ∧ v = 0 ∧ e = .panicked (gave er))
theorem ends_of {q v er : Int} {e : Ending} (ht : Tl q v er) (h : Told (asLen q) e) : Ends v er e := by
  rcases ht with ⟨hl, rfl, rfl⟩ | ⟨hl, rfl, rfl⟩
  · rw [asLen, if_pos (lenB_true hl)] at h
    exact .inl ⟨rfl, h⟩
  · rw [asLen, if_neg (lenB_false hl)] at h
    exact .inr ⟨by decide, rfl, h⟩
theorem part_ends (x n d q r Q R v er : Int) (x0 : -9223372036854775808 ≤ x) (x1 : x ≤ 9223372036854775807) (n0 : -9223372036854775808 ≤ n) (n1 : n ≤ 9223372036854775807) (d0 : -9223372036854775808 ≤ d) (d1 : d ≤ 9223372036854775807) (F : DF (x * n) d q r Q R) (ht : Tl q v er) (w : World) :
    Calls Try.prog 70 #[.int .i64 x, .int .i64 n, .int .i64 d] w fun e w' => Ends v er e ∧ Below w.heap.size w w' := by
  refine (fpart_any x n d q r x0 x1 n0 n1 d0 d1 F.dz (by have := F.er; omega) F.rr w).mono ?_
  rintro e w' ⟨h, hb⟩
  exact ⟨ends_of ht h, hb⟩
set_option maxHeartbeats 1000000 in
theorem scale_bad (x n d : Int) (n0 : -9223372036854775808 ≤ n) (n1 : n ≤ 9223372036854775807) (d0 : -9223372036854775808 ≤ d) (d1 : d ≤ 9223372036854775807) (hg : goodB n d = false) (w : World) :
    Calls Try.prog 76 #[.int .i64 x, .agg #[.int .i64 n, .int .i64 d]] w fun e w' => Ends 0 1 e ∧ Below w.heap.size w w' := by
  have HG := Lib.hid hg
  clear hg
  go_enter Try.func76, Try.ntmps76
  go_wp2_with fail
  refine (down_bad n d x n0 n1 d0 d1 HG.out _).mono ?_
  rintro e w1 ⟨rfl, hb1⟩
  have K1 := Lib.hid (bel_trans (bel_alloc (Below.refl w.heap.size w) _) hb1)
  clear hb1
  go_wp2_with fail
  refine (fail_no 1 (by decide) _).mono ?_
  rintro e w' ⟨rfl, rfl⟩
  exact ⟨rfl, .inr ⟨by decide, rfl, rfl⟩, K1.out⟩
set_option maxHeartbeats 1000000 in
theorem scale_ends (x n d v er : Int) (x0 : -9223372036854775808 ≤ x) (x1 : x ≤ 9223372036854775807) (n0 : -9223372036854775808 ≤ n) (n1 : n ≤ 9223372036854775807) (d0 : 1 ≤ d) (d1 : d ≤ 9223372036854775807) (hg : goodB n d = true) (ht : Tl (x * n / d) v er) (w : World) :
    Calls Try.prog 76 #[.int .i64 x, .agg #[.int .i64 n, .int .i64 d]] w fun e w' => Ends v er e ∧ Below w.heap.size w w' := by
  obtain ⟨A, e1, f, k, S, hs⟩ := said_ex (x * n / d)
  have HR := Lib.hid (fun w => rdown_some n d x A e1 n0 n1 d0 d1 x0 x1 hg hs w)
  have HT := Lib.hid ht
  clear S hg
  obtain ⟨q, hq⟩ : ∃ q, x * n / d = q := ⟨_, rfl⟩
  rw [hq] at hs HT ht
  rcases hs with ⟨q0, q1, rfl, rfl⟩ | ⟨hn, rfl, rfl⟩
  · rcases ht with ⟨hl, rfl, rfl⟩ | ⟨hl, rfl, rfl⟩
    · obtain ⟨b0, b1⟩ := lenB_true hl
      have HQ := Lib.hid hq
      clear hq hl
      go_enter Try.func76, Try.ntmps76
      go_wp2_with fail
      refine (HR.out _).mono ?_
      rintro e w1 ⟨rfl, hb1⟩
      have K1 := Lib.hid (bel_trans (bel_alloc (Below.refl w.heap.size w) _) hb1)
      clear hb1
      go_wp2_with fail
      refine (fail_ok _).mono ?_
      rintro e w' ⟨rfl, rfl⟩
      go_wp2_with fail
      refine (fof_ok _ b0 b1 _).mono ?_
      rintro e w' ⟨rfl, rfl⟩
      go_wp2_with fail
      go_returns
      exact ⟨.inl ⟨rfl, rfl⟩, K1.out⟩
    · have b := lenB_false hl
      have HQ := Lib.hid hq
      have HB := Lib.hid b
      clear hq hl b
      go_enter Try.func76, Try.ntmps76
      go_wp2_with fail
      refine (HR.out _).mono ?_
      rintro e w1 ⟨rfl, hb1⟩
      have K1 := Lib.hid (bel_trans (bel_alloc (Below.refl w.heap.size w) _) hb1)
      clear hb1
      go_wp2_with fail
      refine (fail_ok _).mono ?_
      rintro e w' ⟨rfl, rfl⟩
      go_wp2_with fail
      refine (fof_no _ (by have := HB.out; omega) _).mono ?_
      rintro e w' ⟨rfl, rfl⟩
      exact ⟨rfl, .inr ⟨by decide, rfl, rfl⟩, K1.out⟩
  · rcases ht with ⟨hl, rfl, rfl⟩ | ⟨hl, rfl, rfl⟩
    · exact absurd (lenB_true hl) (by omega)
    · have HQ := Lib.hid hq
      clear hq hl hn
      go_enter Try.func76, Try.ntmps76
      go_wp2_with fail
      refine (HR.out _).mono ?_
      rintro e w1 ⟨rfl, hb1⟩
      have K1 := Lib.hid (bel_trans (bel_alloc (Below.refl w.heap.size w) _) hb1)
      clear hb1
      go_wp2_with fail
      refine (fail_no 2 (by decide) _).mono ?_
      rintro e w' ⟨rfl, rfl⟩
      exact ⟨rfl, .inr ⟨by decide, rfl, rfl⟩, K1.out⟩
end Go.Proofs.Ytbolifjkhoiphaa
