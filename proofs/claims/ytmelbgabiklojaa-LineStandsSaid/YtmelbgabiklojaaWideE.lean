/- Package wide: what each function returns, and that of memory only new blocks are laid. -/
import Derived.Test.YtmelbgabiklojaaRows
import Derived.Test.YtmelbgabiklojaaShelf
import Derived.Test.YtmelbgabiklojaaNum
import Derived.Test.YtmelbgabiklojaaDiv64
import Derived.Test.YtmelbgabiklojaaWideD
import Derived.Outline
import Derived.WalkKit
import Derived.WalkSpells
import Derived.WalkLawsBesides
import Derived.Handy
import Derived.Lib.Hide
import Derived.Deep.QuietTactic
import Derived.BigQuiet
import Derived.Deep.RegionHeld3
import Derived.Deep.RegionWith
import Derived.Shelf.Spec.BitsCarry
import Derived.Deep.DeepCutAuto
import Derived.RegionTactic
import Derived.BigRegion
namespace Go.Proofs.Ytmelbgabiklojaa
open Go.RowKit
set_option linter.unusedVariables false

theorem uniq {m q1 r1 q2 r2 : Int} (m0 : 0 < m) (e : q1 * m + r1 = q2 * m + r2) (a : 0 ≤ r1) (b : r1 < m) (c : 0 ≤ r2) (d : r2 < m) : q1 = q2 ∧ r1 = r2 := by
  have u1 := (Int.ediv_emod_unique (a := q1 * m + r1) (r := r1) (q := q1) m0).2 ⟨by rw [Int.mul_comm]; omega, a, b⟩
  have u2 := (Int.ediv_emod_unique (a := q1 * m + r1) (r := r2) (q := q2) m0).2 ⟨by rw [Int.mul_comm]; omega, c, d⟩
  omega
theorem div_steps (a b d : Int) (h0 : -9223372036854775808 ≤ a) (h1 : a ≤ 9223372036854775807) (h2 : 0 ≤ b) (h3 : b < 18446744073709551616) (d0 : -9223372036854775808 ≤ d) (d1 : d ≤ 9223372036854775807) (dz : d ≠ 0) :
    ∃ m uh ul qh ql R Q : Int, DivSteps a b d m uh ul qh ql R ∧ (if a < 0 then -(a * 18446744073709551616 + b) else a * 18446744073709551616 + b) = Q * m + R ∧ 0 ≤ Q ∧ Q ≤ 170141183460469231731687303715884105728 ∧ (Q < 170141183460469231731687303715884105728 → qh * 18446744073709551616 + ql = Q ∧ 0 ≤ qh) ∧
      (Q = 170141183460469231731687303715884105728 → qh = -9223372036854775808 ∧ ql = 0) ∧ (2 ≤ m → Q < 85070591730234615865843651857942052865) := by
  obtain ⟨X, hX⟩ : ∃ X, X = if a < 0 then -(a * 18446744073709551616 + b) else a * 18446744073709551616 + b := ⟨_, rfl⟩
  obtain ⟨m, hm⟩ : ∃ m, m = if d < 0 then -d else d := ⟨_, rfl⟩
  have X0 : 0 ≤ X := by rw [hX]; split <;> omega
  have X1 : X ≤ 170141183460469231731687303715884105728 := by rw [hX]; split <;> omega
  have m0 : 0 < m := by rw [hm]; split <;> omega
  have m1 : m ≤ 9223372036854775808 := by rw [hm]; split <;> omega
  have Qe := Int.mul_ediv_add_emod X m
  have R0 := Int.emod_nonneg X (show m ≠ 0 by omega)
  have R1 := Int.emod_lt_of_pos X m0
  have Q0 : 0 ≤ X / m := Int.ediv_nonneg X0 (by omega)
  have Q1 : X / m ≤ X := Int.ediv_le_self _ X0
  have Q2 : 2 ≤ m → X / m < 85070591730234615865843651857942052865 := fun h => by
    rw [Int.ediv_lt_iff_lt_mul m0]; omega
  obtain ⟨Q, hQ⟩ : ∃ Q, Q = X / m := ⟨_, rfl⟩
  obtain ⟨R, hR⟩ : ∃ R, R = X % m := ⟨_, rfl⟩
  rw [← hQ, ← hR] at Qe
  rw [← hR] at R0 R1
  rw [← hQ] at Q0 Q1 Q2
  have uw : IntKind.u64.wrap (wrap64 (X / 18446744073709551616)) * 18446744073709551616 + X % 18446744073709551616 = X := by
    simp only [IntKind.wrap_u64, wrap64]; omega
  refine ⟨m, wrap64 (X / 18446744073709551616), X % 18446744073709551616, wrap64 (Q / 18446744073709551616), Q % 18446744073709551616, R, Q, ?_, ?_, Q0, by omega, fun h => ⟨by simp only [wrap64]; omega, by simp only [wrap64]; omega⟩, fun h => ⟨by rw [h]; simp only [wrap64]; omega, by rw [h]; omega⟩, Q2⟩
  · exact { a0 := h0, a1 := h1, b0 := h2, b1 := h3, d0 := d0, d1 := d1, dz := by simpa using dz, hm := hm, m0 := m0, m1 := by omega, u0 := by simp only [wrap64]; omega, u1 := by simp only [wrap64]; omega, u2 := by omega, u3 := by omega
            eu := fun h => by rw [if_pos h] at hX; simp only [wrap64]; omega
            eu' := fun h => by rw [if_neg h] at hX; simp only [wrap64]; omega
            q0 := by simp only [wrap64]; omega, q1 := by simp only [wrap64]; omega, q2 := by omega, q3 := by omega
            eq := by rw [uw, ← hQ]; simp only [wrap64]; omega
            er := by rw [uw]; exact hR.symm
            R0 := R0, R1 := by omega, R2 := R1 }
  · rw [← hX, Int.mul_comm]; omega
theorem L_nn {x q d r m Q R : Int} (hd : d < 0) (e : x = q * d + r) (e1 : d < r) (e2 : r ≤ 0) (hm : m = -d) (hX : -x = Q * m + R) (R0 : 0 ≤ R) (R1 : R < m) : q = Q ∧ r = -R := by
  have t : q * m = -(q * d) := by rw [hm, Int.mul_neg]
  obtain ⟨u1, u2⟩ := uniq (m := m) (q1 := q) (r1 := -r) (q2 := Q) (r2 := R) (by omega) (by omega) (by omega) (by omega) R0 R1
  omega
theorem L_pn {x q d r m Q R : Int} (hd : d < 0) (e : x = q * d + r) (e1 : d < r) (e2 : r ≤ 0) (hm : m = -d) (hX : x = Q * m + R) (R0 : 0 ≤ R) (R1 : R < m) : (R = 0 → q = -Q ∧ r = 0) ∧ (R ≠ 0 → q = -(Q + 1) ∧ r = -(m - R)) := by
  have t : q * m = -(q * d) := by rw [hm, Int.mul_neg]
  by_cases rz : r = 0
  · obtain ⟨u1, u2⟩ := uniq (m := m) (q1 := -q) (r1 := 0) (q2 := Q) (r2 := R) (by omega) (by rw [Int.neg_mul]; omega) (by omega) (by omega) R0 R1
    omega
  · obtain ⟨u1, u2⟩ := uniq (m := m) (q1 := -q - 1) (r1 := m + r) (q2 := Q) (r2 := R) (by omega) (by rw [Int.sub_mul, Int.neg_mul]; omega) (by omega) (by omega) R0 R1
    omega
theorem L_pp {x q d r m Q R : Int} (hd : 0 < d) (e : x = q * d + r) (e1 : 0 ≤ r) (e2 : r < d) (hm : m = d) (hX : x = Q * m + R) (R0 : 0 ≤ R) (R1 : R < m) : q = Q ∧ r = R := by
  subst hm
  exact uniq (m := m) hd (by omega) e1 e2 R0 R1
theorem L_np {x q d r m Q R : Int} (hd : 0 < d) (e : x = q * d + r) (e1 : 0 ≤ r) (e2 : r < d) (hm : m = d) (hX : -x = Q * m + R) (R0 : 0 ≤ R) (R1 : R < m) : (R = 0 → q = -Q ∧ r = 0) ∧ (R ≠ 0 → q = -(Q + 1) ∧ r = m - R) := by
  subst hm
  by_cases rz : r = 0
  · obtain ⟨u1, u2⟩ := uniq (m := m) (q1 := -q) (r1 := 0) (q2 := Q) (r2 := R) (by omega) (by rw [Int.neg_mul]; omega) (by omega) (by omega) R0 R1
    omega
  · obtain ⟨u1, u2⟩ := uniq (m := m) (q1 := -q - 1) (r1 := m - r) (q2 := Q) (r2 := R) (by omega) (by rw [Int.sub_mul, Int.neg_mul]; omega) (by omega) (by omega) R0 R1
    omega
theorem nextpair (qh ql Q : Int) (e : qh * 18446744073709551616 + ql = Q) (q0 : 0 ≤ qh) (Q2 : Q < 85070591730234615865843651857942052865) (Q0 : 0 ≤ Q) :
    ∃ nh nl : Int, -9223372036854775808 ≤ nh ∧ nh ≤ 9223372036854775807 ∧ 0 ≤ nl ∧ nl < 18446744073709551616 ∧ nh * 18446744073709551616 + nl = qh * 18446744073709551616 + ql + 1 :=
  ⟨(Q + 1) / 18446744073709551616, (Q + 1) % 18446744073709551616, by omega, by omega, by omega, by omega, by omega⟩
theorem div_ok (a b d h l r : Int) (h0 : -9223372036854775808 ≤ a) (h1 : a ≤ 9223372036854775807) (h2 : 0 ≤ b) (h3 : b < 18446744073709551616) (d0 : -9223372036854775808 ≤ d) (d1 : d ≤ 9223372036854775807) (dz : d ≠ 0)
    (p0 : -9223372036854775808 ≤ h) (p1 : h ≤ 9223372036854775807) (p2 : 0 ≤ l) (p3 : l < 18446744073709551616)
    (e : a * 18446744073709551616 + b = (h * 18446744073709551616 + l) * d + r) (er : (0 ≤ r ∧ r < d) ∨ (d < r ∧ r ≤ 0)) (w : World) :
    Calls Try.prog 76 #[.agg #[.int .i64 a, .int .u64 b], .int .i64 d] w fun e w' => e = .returned (.tuple #[.agg #[.int .i64 h, .int .u64 l], .int .i64 r, .bool true]) ∧ Below w.heap.size w w' := by
  obtain ⟨m, uh, ul, qh, ql, R, Q, S, hX, Q0, Q1, Qs, Qb, Q2⟩ := div_steps a b d h0 h1 h2 h3 d0 d1 dz
  have hm := S.hm
  have R0 := S.R0
  have R2 := S.R2
  have m0 := S.m0
  have s2 := S.q2
  have s3 := S.q3
  by_cases sd : d < 0
  · rw [if_pos sd] at hm
    have er' : d < r ∧ r ≤ 0 := by omega
    by_cases sa : a < 0
    · rw [if_pos sa] at hX
      obtain ⟨u1, u2⟩ := L_nn sd e er'.1 er'.2 hm hX R0 R2
      obtain ⟨g1, g2⟩ := Qs (by omega)
      obtain rfl : qh = h := by omega
      obtain rfl : ql = l := by omega
      exact div_same_nn a b d m uh ul qh ql R r S sa sd (by simp; omega) (by rw [if_pos sd]; omega) w
    · rw [if_neg sa] at hX
      obtain ⟨t1, t2⟩ := L_pn sd e er'.1 er'.2 hm hX R0 R2
      by_cases hR : R = 0
      · obtain ⟨u1, u2⟩ := t1 hR
        refine div_diff0_pn a b d m uh ul qh ql R h l r S sa sd hR p0 p1 p2 p3 (Lib.hid ?_) u2 w
        by_cases Qm : Q < 170141183460469231731687303715884105728
        · have := Qs Qm; omega
        · have := Qb (by omega); omega
      · obtain ⟨u1, u2⟩ := t2 hR
        have q2 := Q2 (by omega)
        obtain ⟨g1, g2⟩ := Qs (by omega)
        obtain ⟨nh, nl, n0, n1, n2, n3, ne⟩ := nextpair qh ql Q g1 g2 q2 Q0
        exact div_diff1_pn a b d m uh ul qh ql R nh nl h l r S sa sd hR p0 p1 p2 p3 n0 n1 n2 n3 (Lib.hid ne) (Lib.hid (by omega)) (by rw [if_pos sd]; omega) w
  · rw [if_neg sd] at hm
    have er' : 0 ≤ r ∧ r < d := by omega
    by_cases sa : a < 0
    · rw [if_pos sa] at hX
      obtain ⟨t1, t2⟩ := L_np (by omega) e er'.1 er'.2 hm hX R0 R2
      by_cases hR : R = 0
      · obtain ⟨u1, u2⟩ := t1 hR
        refine div_diff0_np a b d m uh ul qh ql R h l r S sa sd hR p0 p1 p2 p3 (Lib.hid ?_) u2 w
        by_cases Qm : Q < 170141183460469231731687303715884105728
        · have := Qs Qm; omega
        · have := Qb (by omega); omega
      · obtain ⟨u1, u2⟩ := t2 hR
        have q2 := Q2 (by omega)
        obtain ⟨g1, g2⟩ := Qs (by omega)
        obtain ⟨nh, nl, n0, n1, n2, n3, ne⟩ := nextpair qh ql Q g1 g2 q2 Q0
        exact div_diff1_np a b d m uh ul qh ql R nh nl h l r S sa sd hR p0 p1 p2 p3 n0 n1 n2 n3 (Lib.hid ne) (Lib.hid (by omega)) (by rw [if_neg sd]; omega) w
    · rw [if_neg sa] at hX
      obtain ⟨u1, u2⟩ := L_pp (by omega) e er'.1 er'.2 hm hX R0 R2
      obtain ⟨g1, g2⟩ := Qs (by omega)
      obtain rfl : qh = h := by omega
      obtain rfl : ql = l := by omega
      exact div_same_pp a b d m uh ul qh ql R r S sa sd (by simp; omega) (by rw [if_neg sd]; omega) w
theorem div_zero (a b : Int) (w : World) :
    Calls Try.prog 76 #[.agg #[.int .i64 a, .int .u64 b], .int .i64 0] w fun e w' => e = .returned (.tuple #[.agg #[.int .i64 0, .int .u64 0], .int .i64 0, .bool false]) ∧ Below w.heap.size w w' := by
  go_enter Try.func76, Try.ntmps76
  go_wp2
  go_returns
  exact ⟨rfl, by go_grown⟩
theorem div_min (w : World) :
    Calls Try.prog 76 #[.agg #[.int .i64 (-9223372036854775808), .int .u64 0], .int .i64 (-1)] w fun e w' => e = .returned (.tuple #[.agg #[.int .i64 0, .int .u64 0], .int .i64 0, .bool false]) ∧ Below w.heap.size w w' := by
  obtain ⟨m, uh, ul, qh, ql, R, Q, S, hX, Q0, Q1, Qs, Qb, Q2⟩ := div_steps (-9223372036854775808) 0 (-1) (by decide) (by decide) (by decide) (by decide) (by decide) (by decide) (by decide)
  have hm := S.hm
  have R0 := S.R0
  have R2 := S.R2
  rw [if_pos (by decide)] at hm hX
  obtain rfl : m = 1 := hm
  obtain ⟨g1, g2⟩ := Qb (by omega)
  exact div_over_nn _ _ _ 1 uh ul qh ql R S (by decide) (by decide) (by simp; omega) w
/-- of every product -/
theorem hl (x : Int) (h0 : -170141183460469231731687303715884105728 ≤ x) (h1 : x < 170141183460469231731687303715884105728) :
    ∃ h l : Int, -9223372036854775808 ≤ h ∧ h ≤ 9223372036854775807 ∧ 0 ≤ l ∧ l < 18446744073709551616 ∧ h * 18446744073709551616 + l = x :=
  ⟨x / 18446744073709551616, x % 18446744073709551616, by omega, by omega, by omega, by omega, by omega⟩
theorem prod_range (a b : Int) (h0 : -9223372036854775808 ≤ a) (h1 : a ≤ 9223372036854775807) (g0 : -9223372036854775808 ≤ b) (g1 : b ≤ 9223372036854775807) :
    -85070591730234615865843651857942052864 ≤ a * b ∧ a * b ≤ 85070591730234615865843651857942052864 := by
  have k1 : (a * b).natAbs ≤ 9223372036854775808 * 9223372036854775808 := by
    rw [Int.natAbs_mul]
    exact Nat.mul_le_mul (by omega) (by omega)
  omega
theorem quo_range {x q d r : Int} (h0 : -85070591730234615865843651857942052864 ≤ x) (h1 : x ≤ 85070591730234615865843651857942052864) (dz : d ≠ 0) (e : x = q * d + r) (er : (0 ≤ r ∧ r < d) ∨ (d < r ∧ r ≤ 0)) :
    -85070591730234615865843651857942052865 ≤ q ∧ q ≤ 85070591730234615865843651857942052865 := by
  by_cases q0 : 0 ≤ q
  · rcases er with er | er
    · have : q * 1 ≤ q * d := Int.mul_le_mul_of_nonneg_left (by omega) q0
      omega
    · have : q * 1 ≤ q * -d := Int.mul_le_mul_of_nonneg_left (by omega) q0
      rw [Int.mul_neg] at this
      omega
  · rcases er with er | er
    · have := Int.mul_le_mul_of_nonneg_left (c := -q - 1) (show (1 : Int) ≤ d by omega) (by omega)
      simp only [Int.sub_mul, Int.neg_mul, Int.one_mul, Int.mul_one] at this
      omega
    · have := Int.mul_le_mul_of_nonneg_left (c := -q - 1) (show (1 : Int) ≤ -d by omega) (by omega)
      simp only [Int.sub_mul, Int.neg_mul, Int.mul_neg, Int.one_mul, Int.mul_one] at this
      omega
theorem muldiv_ok (a b c q r : Int) (h0 : -9223372036854775808 ≤ a) (h1 : a ≤ 9223372036854775807) (g0 : -9223372036854775808 ≤ b) (g1 : b ≤ 9223372036854775807) (d0 : -9223372036854775808 ≤ c) (d1 : c ≤ 9223372036854775807) (dz : c ≠ 0)
    (q0 : -9223372036854775808 ≤ q) (q1 : q ≤ 9223372036854775807) (e : a * b = q * c + r) (er : (0 ≤ r ∧ r < c) ∨ (c < r ∧ r ≤ 0)) (w : World) :
    Calls Try.prog 66 #[.int .i64 a, .int .i64 b, .int .i64 c] w fun e w' => e = .returned (.tuple #[.int .i64 q, .bool true]) ∧ Below w.heap.size w w' := by
  obtain ⟨p0, p1⟩ := prod_range a b h0 h1 g0 g1
  obtain ⟨h, l, x0, x1, x2, x3, xe⟩ := hl (a * b) (by omega) (by omega)
  obtain ⟨qh, ql, y0, y1, y2, y3, ye⟩ := hl q (by omega) (by omega)
  have E := Lib.hid e
  have XE := Lib.hid xe
  have YE := Lib.hid ye
  clear e xe ye
  go_enter Try.func66, Try.ntmps66
  go_wp2_with fail
  refine (mul_any a b h l h0 h1 g0 g1 x0 x1 x2 x3 XE.out _).mono ?_
  rintro e w1 ⟨rfl, rfl⟩
  go_wp2_with fail
  refine (div_ok h l c qh ql r x0 x1 x2 x3 d0 d1 dz y0 y1 y2 y3 (by have := XE.out; have := E.out; have := YE.out; rw [this]; omega) er _).mono ?_
  rintro e w2 ⟨rfl, hb⟩
  have HB := Lib.hid (((Below.refl w.heap.size w).alloc (Nat.le_refl _) _).trans (hb.mono (by simp)))
  clear hb
  go_wp2_with fail
  refine (int_ok qh ql q y0 y1 y2 y3 q0 q1 YE.out _).mono ?_
  rintro e w3 ⟨rfl, hb3⟩
  have HB3 := Lib.hid ((HB.out.alloc (by have := HB.out.size; omega) _).trans (hb3.mono (by have := HB.out.size; simp; omega)))
  clear hb3
  go_wp2
  go_returns
  exact ⟨rfl, HB3.out⟩
theorem muldiv_zero (a b : Int) (h0 : -9223372036854775808 ≤ a) (h1 : a ≤ 9223372036854775807) (g0 : -9223372036854775808 ≤ b) (g1 : b ≤ 9223372036854775807) (w : World) :
    Calls Try.prog 66 #[.int .i64 a, .int .i64 b, .int .i64 0] w fun e w' => e = .returned (.tuple #[.int .i64 0, .bool false]) ∧ Below w.heap.size w w' := by
  obtain ⟨p0, p1⟩ := prod_range a b h0 h1 g0 g1
  obtain ⟨h, l, x0, x1, x2, x3, xe⟩ := hl (a * b) (by omega) (by omega)
  have XE := Lib.hid xe
  clear xe
  go_enter Try.func66, Try.ntmps66
  go_wp2_with fail
  refine (mul_any a b h l h0 h1 g0 g1 x0 x1 x2 x3 XE.out _).mono ?_
  rintro e w1 ⟨rfl, rfl⟩
  go_wp2_with fail
  refine (div_zero h l _).mono ?_
  rintro e w2 ⟨rfl, hb⟩
  have HB := Lib.hid (((Below.refl w.heap.size w).alloc (Nat.le_refl _) _).trans (hb.mono (by simp)))
  clear hb
  go_wp2
  go_returns
  exact ⟨rfl, HB.out.alloc (by have := HB.out.size; omega) _⟩
theorem muldiv_no (a b c q r : Int) (h0 : -9223372036854775808 ≤ a) (h1 : a ≤ 9223372036854775807) (g0 : -9223372036854775808 ≤ b) (g1 : b ≤ 9223372036854775807) (d0 : -9223372036854775808 ≤ c) (d1 : c ≤ 9223372036854775807) (dz : c ≠ 0)
    (q0 : q < -9223372036854775808 ∨ 9223372036854775807 < q) (e : a * b = q * c + r) (er : (0 ≤ r ∧ r < c) ∨ (c < r ∧ r ≤ 0)) (w : World) :
    Calls Try.prog 66 #[.int .i64 a, .int .i64 b, .int .i64 c] w fun e w' => e = .returned (.tuple #[.int .i64 0, .bool false]) ∧ Below w.heap.size w w' := by
  obtain ⟨p0, p1⟩ := prod_range a b h0 h1 g0 g1
  obtain ⟨r0, r1⟩ := quo_range p0 p1 dz e er
  obtain ⟨h, l, x0, x1, x2, x3, xe⟩ := hl (a * b) (by omega) (by omega)
  obtain ⟨qh, ql, y0, y1, y2, y3, ye⟩ := hl q (by omega) (by omega)
  have E := Lib.hid e
  have XE := Lib.hid xe
  have YE := Lib.hid ye
  clear e xe ye
  go_enter Try.func66, Try.ntmps66
  go_wp2_with fail
  refine (mul_any a b h l h0 h1 g0 g1 x0 x1 x2 x3 XE.out _).mono ?_
  rintro e w1 ⟨rfl, rfl⟩
  go_wp2_with fail
  refine (div_ok h l c qh ql r x0 x1 x2 x3 d0 d1 dz y0 y1 y2 y3 (by have := XE.out; have := E.out; have := YE.out; rw [this]; omega) er _).mono ?_
  rintro e w2 ⟨rfl, hb⟩
  have HB := Lib.hid (((Below.refl w.heap.size w).alloc (Nat.le_refl _) _).trans (hb.mono (by simp)))
  clear hb
  go_wp2_with fail
  refine (int_no qh ql y0 y1 y2 y3 (by have := YE.out; omega) _).mono ?_
  rintro e w3 ⟨rfl, hb3⟩
  have HB3 := Lib.hid ((HB.out.alloc (by have := HB.out.size; omega) _).trans (hb3.mono (by have := HB.out.size; simp; omega)))
  clear hb3
  go_wp2
  go_returns
  exact ⟨rfl, HB3.out⟩
end Go.Proofs.Ytmelbgabiklojaa
/- Small lemmas on worlds; a quotient rounded down exists. -/
namespace Go.Proofs.Ytmelbgabiklojaa
open Go.RowKit
set_option linter.unusedVariables false
set_option maxRecDepth 100000
set_option linter.unusedSimpArgs false

theorem keep_alloc {w : World} {a : Addr} {v : Value} {o : Obj} (h : w.cell? a = some v) : (w.alloc o).cell? a = some v := by
  obtain ⟨b, i, x⟩ := a
  have hb := World.block_lt_of_cell? w _ h
  rw [← h]
  exact World.cell?_of_block (by simpa using Below.heap_alloc w o b hb)

theorem below_step {w w4 W w6 : World} (h1 : Below w.heap.size w w4) (h2 : Below w4.heap.size w4 W) (h3 : Below W.heap.size W w6) : Below w.heap.size w w6 :=
  h1.trans ((h2.mono h1.size).trans (h3.mono (Nat.le_trans h1.size h2.size)))


theorem floor_exists (x c : Int) (dz : c ≠ 0) : ∃ q r : Int, x = q * c + r ∧ ((0 ≤ r ∧ r < c) ∨ (c < r ∧ r ≤ 0)) := by
  by_cases h : 0 < c
  · exact ⟨x / c, x % c, by have := Int.mul_ediv_add_emod x c; rw [Int.mul_comm]; omega, .inl ⟨Int.emod_nonneg _ dz, Int.emod_lt_of_pos _ h⟩⟩
  · have := Int.mul_ediv_add_emod (-x) (-c)
    have p := Int.emod_nonneg (-x) (show -c ≠ 0 by omega)
    have q := Int.emod_lt_of_pos (-x) (show 0 < -c by omega)
    refine ⟨-x / -c, -(-x % -c), ?_, .inr (by omega)⟩
    rw [Int.neg_mul] at this
    rw [Int.mul_comm]
    omega

end Go.Proofs.Ytmelbgabiklojaa
/- Package wide once more: sums, negations, comparisons, by their values. -/
namespace Go.Proofs.Ytmelbgabiklojaa
open Go.RowKit
set_option linter.unusedVariables false
set_option maxRecDepth 100000
set_option linter.unusedSimpArgs false

/-- three numbers in memory -/
structure Cells3 (w : World) (x y z : Nat) (a b c d f g : Int) : Prop where
  q0 : w.cell? ⟨x, 0, none⟩ = some (.int .i64 a)
  q1 : w.cell? ⟨x, 1, none⟩ = some (.int .u64 b)
  q2 : w.cell? ⟨y, 0, none⟩ = some (.int .i64 c)
  q3 : w.cell? ⟨y, 1, none⟩ = some (.int .u64 d)
  q4 : w.cell? ⟨z, 0, none⟩ = some (.int .i64 f)
  q5 : w.cell? ⟨z, 1, none⟩ = some (.int .u64 g)
theorem Cells3.later {w w' : World} {x y z : Nat} {a b c d f g : Int} (h : Cells3 w x y z a b c d f g) (hb : Below w.heap.size w w') : Cells3 w' x y z a b c d f g :=
  ⟨cell_later hb h.q0, cell_later hb h.q1, cell_later hb h.q2, cell_later hb h.q3, cell_later hb h.q4, cell_later hb h.q5⟩
theorem Cells3.alloc {w : World} {x y z : Nat} {a b c d f g : Int} (h : Cells3 w x y z a b c d f g) (o : Obj) : Cells3 (w.alloc o) x y z a b c d f g :=
  ⟨keep_alloc h.q0, keep_alloc h.q1, keep_alloc h.q2, keep_alloc h.q3, keep_alloc h.q4, keep_alloc h.q5⟩
theorem add_ex (a b c d : Int) (h0 : -9223372036854775808 ≤ a) (h1 : a ≤ 9223372036854775807) (h2 : 0 ≤ b) (h3 : b < 18446744073709551616) 
   (g0 : -9223372036854775808 ≤ c) (g1 : c ≤ 9223372036854775807) (g2 : 0 ≤ d) (g3 : d < 18446744073709551616) :
   ∃ (ok : Bool) (h l : Int), -9223372036854775808 ≤ h ∧ h ≤ 9223372036854775807 ∧ 0 ≤ l ∧ l < 18446744073709551616 ∧
     (ok = true → h * 18446744073709551616 + l = (a * 18446744073709551616 + b) + (c * 18446744073709551616 + d)) ∧
     (ok = decide (-170141183460469231731687303715884105728 ≤ (a * 18446744073709551616 + b) + (c * 18446744073709551616 + d) ∧ (a * 18446744073709551616 + b) + (c * 18446744073709551616 + d) < 170141183460469231731687303715884105728)) ∧
     (ok = false → h = 0 ∧ l = 0) ∧
     ∀ w : World, Calls Try.prog 52 #[.agg #[.int .i64 a, .int .u64 b], .agg #[.int .i64 c, .int .u64 d]] w fun e w' => e = .returned (.tuple #[.agg #[.int .i64 h, .int .u64 l], .bool ok]) ∧ Below w.heap.size w w' := by
  by_cases hS : -170141183460469231731687303715884105728 ≤ (a * 18446744073709551616 + b) + (c * 18446744073709551616 + d) ∧ (a * 18446744073709551616 + b) + (c * 18446744073709551616 + d) < 170141183460469231731687303715884105728
  · obtain ⟨h, l, x0, x1, x2, x3, xe⟩ := hl ((a * 18446744073709551616 + b) + (c * 18446744073709551616 + d)) hS.1 hS.2
    exact ⟨true, h, l, x0, x1, x2, x3, fun _ => xe, by rw [decide_eq_true hS], (fun h => by cases h), fun w => add_mid a b c d h l h l true h0 h1 h2 h3 g0 g1 g2 g3 x0 x1 x2 x3 (by omega) (fun _ => ⟨rfl, rfl, by omega⟩) (fun h => by cases h) w⟩
  · by_cases hp : (a * 18446744073709551616 + b) + (c * 18446744073709551616 + d) < 0
    · obtain ⟨h, l, x0, x1, x2, x3, xe⟩ := hl ((a * 18446744073709551616 + b) + (c * 18446744073709551616 + d) + 340282366920938463463374607431768211456) (by omega) (by omega)
      exact ⟨false, 0, 0, by decide, by decide, by decide, by decide, (fun h => by cases h), by rw [decide_eq_false hS], fun _ => ⟨rfl, rfl⟩, fun w => add_mid a b c d h l 0 0 false h0 h1 h2 h3 g0 g1 g2 g3 x0 x1 x2 x3 (by omega) (fun h => by cases h) (fun _ => ⟨rfl, rfl, by omega⟩) w⟩
    · obtain ⟨h, l, x0, x1, x2, x3, xe⟩ := hl ((a * 18446744073709551616 + b) + (c * 18446744073709551616 + d) - 340282366920938463463374607431768211456) (by omega) (by omega)
      exact ⟨false, 0, 0, by decide, by decide, by decide, by decide, (fun h => by cases h), by rw [decide_eq_false hS], fun _ => ⟨rfl, rfl⟩, fun w => add_mid a b c d h l 0 0 false h0 h1 h2 h3 g0 g1 g2 g3 x0 x1 x2 x3 (by omega) (fun h => by cases h) (fun _ => ⟨rfl, rfl, by omega⟩) w⟩
theorem cmpI_range (x y : Int) : -1 ≤ cmpI x y ∧ cmpI x y ≤ 1 := by unfold cmpI; split <;> (try split) <;> omega
theorem cmpI_swap (x y : Int) : cmpI y x = -cmpI x y := by unfold cmpI; repeat' split
                                                           all_goals omega
end Go.Proofs.Ytmelbgabiklojaa
/- Package wide once more: sums, negations, comparisons, by their values. -/
namespace Go.Proofs.Ytmelbgabiklojaa
open Go.RowKit
set_option linter.unusedVariables false
set_option maxRecDepth 100000
set_option linter.unusedSimpArgs false
theorem wneg_ex (a b : Int) (h0 : -9223372036854775808 ≤ a) (h1 : a ≤ 9223372036854775807) (h2 : 0 ≤ b) (h3 : b < 18446744073709551616) :
   ∃ (ok : Bool) (h l : Int), -9223372036854775808 ≤ h ∧ h ≤ 9223372036854775807 ∧ 0 ≤ l ∧ l < 18446744073709551616 ∧
     (ok = true → h * 18446744073709551616 + l = -(a * 18446744073709551616 + b)) ∧
     (ok = decide (-(a * 18446744073709551616 + b) < 170141183460469231731687303715884105728)) ∧
     (ok = false → h = 0 ∧ l = 0) ∧
     ∀ w : World, Calls Try.prog 51 #[.agg #[.int .i64 a, .int .u64 b]] w fun e w' => e = .returned (.tuple #[.agg #[.int .i64 h, .int .u64 l], .bool ok]) ∧ Below w.heap.size w w' := by
  by_cases hS : -(a * 18446744073709551616 + b) < 170141183460469231731687303715884105728
  · obtain ⟨h, l, x0, x1, x2, x3, xe⟩ := hl (-(a * 18446744073709551616 + b)) (by omega) hS
    exact ⟨true, h, l, x0, x1, x2, x3, fun _ => xe, by rw [decide_eq_true hS], (fun h => by cases h), fun w => wneg_ok a b h l h0 h1 h2 h3 x0 x1 x2 x3 xe w⟩
  · obtain rfl : a = -9223372036854775808 := by omega
    obtain rfl : b = 0 := by omega
    exact ⟨false, 0, 0, by decide, by decide, by decide, by decide, (fun h => by cases h), by rw [decide_eq_false hS], fun _ => ⟨rfl, rfl⟩, fun w => wneg_no w⟩
end Go.Proofs.Ytmelbgabiklojaa
