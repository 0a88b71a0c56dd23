/- math/bits.Div64: for a divisor above the high word it gives the quotient and the remainder of the 128 bits. -/
import Derived.Test.YtmelbgabiklojaaRows
import Derived.Test.YtmelbgabiklojaaShelf
import Derived.Test.YtmelbgabiklojaaNum
import Derived.WalkKit
import Derived.WalkSpells
import Derived.WalkLawsBesides
import Derived.Handy
import Derived.Lib.Hide
import Derived.Deep.QuietTactic
import Derived.BigQuiet
import Derived.LoopTactic
namespace Go.Proofs.Ytmelbgabiklojaa
open Go.RowKit
set_option linter.unusedVariables false

theorem mulb (q b : Int) (q0 : 0 ≤ q) (b0 : 0 ≤ b) (q1 : q ≤ 4294967296) (b1 : b < 4294967296) : q * b ≤ 18446744069414584320 := by
  have h1 : q * b ≤ 4294967296 * b := Int.mul_le_mul_of_nonneg_right q1 b0
  omega
theorem brk {Q a b n u q r : Int} (h : ∀ q r : Int, q * a + r = u → 0 ≤ r → (Q < q ↔ 4294967296 * r + n < q * b)) (heq : q * a + r = u) (q0 : Q ≤ q) (q1 : q ≤ 4294967297) (r0 : 0 ≤ r) (r1 : r < 4294967296) (n0 : 0 ≤ n) (b0 : 0 ≤ b) (b1 : b < 4294967296) (Q0 : 0 ≤ Q) (c2 : 4294967296 ≤ r + a) (c4 : Q < q) : q = Q + 1 := by
  have h1 := h (q - 1) (r + a) (by rw [Int.sub_mul]; omega) (by omega)
  have h2 := mulb (q - 1) b (by omega) b0 (by omega) b1
  omega
set_option maxHeartbeats 1000000 in
theorem div64_walk (hi lo y v a b u m n1 n0 qi t ri Q1 R1 qj t2 rj Q0 R0 QQ RR : Int) (s : Nat) (h0 : 0 < hi) (h1 : hi < y) (h2 : 0 ≤ lo) (h3 : lo < 18446744073709551616) (h4 : y < 18446744073709551616) (hs : (s : Int) ≤ 63)
   (hl : (64 - (Lib.bitLen y.toNat : Int)) = s) 
   (e1 : min s 64 = s) 
   (e2 : IntKind.u64.wrap (y * 2 ^ s) = v) (v0 : 9223372036854775808 ≤ v) (v1 : v < 18446744073709551616) (z : (a == 0) = false)
   (e3 : v / 4294967296 = a) (e4 : bits BinOp.and IntKind.u64 v 4294967295 = b)
   (e5 : bits BinOp.or IntKind.u64 (IntKind.u64.wrap (hi * 2 ^ s)) (lo / 2 ^ (64 - s)) = u)
   (e6 : IntKind.u64.wrap (lo * 2 ^ s) = m) (e7 : m / 4294967296 = n1) (e8 : bits BinOp.and IntKind.u64 m 4294967295 = n0)
   (e9 : u / a = qi) (e10 : qi * a = t) (e11 : u - t = ri)
   (a0 : 2147483648 ≤ a) (a1 : a < 4294967296) (b0 : 0 ≤ b) (b1 : b < 4294967296) (u0 : 0 ≤ u) (u1 : u < v) 
   (n10 : 0 ≤ n1) (n11 : n1 < 4294967296) (n00 : 0 ≤ n0) (n01 : n0 < 4294967296)
   (qi0 : 0 ≤ qi) (qi1 : qi ≤ 4294967297) (t0 : 0 ≤ t) (t1 : t ≤ u) (ri0 : 0 ≤ ri) (ri1 : ri < 4294967296)
   (Q10 : 0 ≤ Q1) (Q11 : Q1 < 4294967296) (Q1q : Q1 ≤ qi)
   (hQ1 : Hid (∀ q r : Int, q * a + r = u → 0 ≤ r → (Q1 < q ↔ 4294967296 * r + n1 < q * b)))
   (e12 : IntKind.u64.wrap (IntKind.u64.wrap (IntKind.u64.wrap (u * 4294967296) + n1) - IntKind.u64.wrap (Q1 * v)) = R1)
   (R10 : 0 ≤ R1) (R11 : R1 < v) 
   (f9 : R1 / a = qj) (f10 : qj * a = t2) (f11 : R1 - t2 = rj)
   (qj0 : 0 ≤ qj) (qj1 : qj ≤ 4294967297) (t20 : 0 ≤ t2) (t21 : t2 ≤ R1) (rj0 : 0 ≤ rj) (rj1 : rj < 4294967296)
   (Q00 : 0 ≤ Q0) (Q01 : Q0 < 4294967296) (Q0q : Q0 ≤ qj)
   (hQ0 : Hid (∀ q r : Int, q * a + r = R1 → 0 ≤ r → (Q0 < q ↔ 4294967296 * r + n0 < q * b)))
   (e16 : IntKind.u64.wrap (IntKind.u64.wrap (IntKind.u64.wrap (R1 * 4294967296) + n0) - IntKind.u64.wrap (Q0 * v)) = R0)
   (hq : Hid (Q1 * 4294967296 + Q0 = QQ)) (hr : Hid (R0 / 2 ^ s = RR))
   (w : World) :
    Calls Try.prog 86 #[.int .u64 hi, .int .u64 lo, .int .u64 y] w fun e w' => e = .returned (.tuple #[.int .u64 QQ, .int .u64 RR]) ∧ w' = w := by
  go_enter Try.func86, Try.ntmps86
  go_wp2_with (go_at_call 87; refine (Try.bits_LeadingZeros64 _ _ (by omega) (by omega)).mono ?_; rintro e w' ⟨rfl, rfl⟩)
  go_loop [15, 16] (fun x y => ∃ q r : Int, x = .int .u64 q ∧ y = .int .u64 r ∧ Q1 ≤ q ∧ q ≤ 4294967297 ∧ 0 ≤ r ∧ r < 4294967296 ∧ q * a + r = u) (fun x _ => (intOf x).toNat)
  case atStart => exact ⟨qi, ri, (by first | rw [e9] | rfl), rfl, Q1q, qi1, ri0, ri1, by omega⟩
  case round =>
    obtain ⟨q, r, rfl, rfl, q0, q1, r0, r1, heq⟩ := hrel
    have hdec := (hQ1.out q r heq r0)
    have hb0 : 0 ≤ q * b := Int.mul_nonneg (by omega) b0
    by_cases c1 : 4294967296 ≤ q
    · by_cases c2 : 4294967296 ≤ r + a
      · obtain rfl : q = Q1 + 1 := (brk hQ1.out heq q0 q1 r0 r1 n10 b0 b1 Q10 c2 (by omega))
        clear heq hdec e9 e10 e11
        go_wp2
        go_loop [18, 16] (fun x y => ∃ q r : Int, x = .int .u64 q ∧ y = .int .u64 r ∧ Q0 ≤ q ∧ q ≤ 4294967297 ∧ 0 ≤ r ∧ r < 4294967296 ∧ q * a + r = R1) (fun x _ => (intOf x).toNat)
        case atStart => exact ⟨qj, rj, (by first | rfl | rw [f9]), rfl, Q0q, qj1, rj0, rj1, by omega⟩
        case round =>
          obtain ⟨q, r, rfl, rfl, q0, q1, r0, r1, heq⟩ := hrel
          have hdec := (hQ0.out q r heq r0)
          have hb0 : 0 ≤ q * b := Int.mul_nonneg (by omega) b0
          by_cases c1 : 4294967296 ≤ q
          · by_cases c2 : 4294967296 ≤ r + a
            · obtain rfl : q = Q0 + 1 := (brk hQ0.out heq q0 q1 r0 r1 n00 b0 b1 Q00 c2 (by omega))
              clear heq hdec f9 f10 f11
              go_wp2
              go_ret2
              exact ⟨by rw [hq.out, hr.out]; rfl, rfl⟩
            · have H := Lib.hid heq
              clear heq hdec f9 f10 f11
              go_wp2
              go_round
              case rel => exact ⟨q - 1, r + a, rfl, rfl, by omega, by omega, by omega, by omega, (by have := H.out; rw [Int.sub_mul]; omega)⟩
              case measure => simp [intOf]; omega
          · have hb1 : q * b ≤ 18446744069414584320 := mulb q b (by omega) b0 (by omega) b1
            by_cases c3 : 4294967296 * r + n0 < q * b
            · have c4 : Q0 < q := hdec.2 c3
              by_cases c2 : 4294967296 ≤ r + a
              · obtain rfl : q = Q0 + 1 := (brk hQ0.out heq q0 q1 r0 r1 n00 b0 b1 Q00 c2 c4)
                clear heq hdec f9 f10 f11
                go_wp2
                go_ret2
                exact ⟨by rw [hq.out, hr.out]; rfl, rfl⟩
              · have H := Lib.hid heq
                clear heq hdec f9 f10 f11
                go_wp2
                go_round
                case rel => exact ⟨q - 1, r + a, rfl, rfl, by omega, by omega, by omega, by omega, (by have := H.out; rw [Int.sub_mul]; omega)⟩
                case measure => simp [intOf]; omega
            · obtain rfl : q = Q0 := (by have := hdec.1; omega)
              clear heq hdec f9 f10 f11
              go_wp2
              go_ret2
              exact ⟨by rw [hq.out, hr.out]; rfl, rfl⟩
      · have H := Lib.hid heq
        clear heq hdec e9 e10 e11
        go_wp2
        go_round
        case rel => exact ⟨q - 1, r + a, rfl, rfl, by omega, by omega, by omega, by omega, (by have := H.out; rw [Int.sub_mul]; omega)⟩
        case measure => simp [intOf]; omega
    · have hb1 : q * b ≤ 18446744069414584320 := mulb q b (by omega) b0 (by omega) b1
      by_cases c3 : 4294967296 * r + n1 < q * b
      · have c4 : Q1 < q := hdec.2 c3
        by_cases c2 : 4294967296 ≤ r + a
        · obtain rfl : q = Q1 + 1 := (brk hQ1.out heq q0 q1 r0 r1 n10 b0 b1 Q10 c2 c4)
          clear heq hdec e9 e10 e11
          go_wp2
          go_loop [18, 16] (fun x y => ∃ q r : Int, x = .int .u64 q ∧ y = .int .u64 r ∧ Q0 ≤ q ∧ q ≤ 4294967297 ∧ 0 ≤ r ∧ r < 4294967296 ∧ q * a + r = R1) (fun x _ => (intOf x).toNat)
          case atStart => exact ⟨qj, rj, (by first | rfl | rw [f9]), rfl, Q0q, qj1, rj0, rj1, by omega⟩
          case round =>
            obtain ⟨q, r, rfl, rfl, q0, q1, r0, r1, heq⟩ := hrel
            have hdec := (hQ0.out q r heq r0)
            have hb0 : 0 ≤ q * b := Int.mul_nonneg (by omega) b0
            by_cases c1 : 4294967296 ≤ q
            · by_cases c2 : 4294967296 ≤ r + a
              · obtain rfl : q = Q0 + 1 := (brk hQ0.out heq q0 q1 r0 r1 n00 b0 b1 Q00 c2 (by omega))
                clear heq hdec f9 f10 f11
                go_wp2
                go_ret2
                exact ⟨by rw [hq.out, hr.out]; rfl, rfl⟩
              · have H := Lib.hid heq
                clear heq hdec f9 f10 f11
                go_wp2
                go_round
                case rel => exact ⟨q - 1, r + a, rfl, rfl, by omega, by omega, by omega, by omega, (by have := H.out; rw [Int.sub_mul]; omega)⟩
                case measure => simp [intOf]; omega
            · have hb1 : q * b ≤ 18446744069414584320 := mulb q b (by omega) b0 (by omega) b1
              by_cases c3 : 4294967296 * r + n0 < q * b
              · have c4 : Q0 < q := hdec.2 c3
                by_cases c2 : 4294967296 ≤ r + a
                · obtain rfl : q = Q0 + 1 := (brk hQ0.out heq q0 q1 r0 r1 n00 b0 b1 Q00 c2 c4)
                  clear heq hdec f9 f10 f11
                  go_wp2
                  go_ret2
                  exact ⟨by rw [hq.out, hr.out]; rfl, rfl⟩
                · have H := Lib.hid heq
                  clear heq hdec f9 f10 f11
                  go_wp2
                  go_round
                  case rel => exact ⟨q - 1, r + a, rfl, rfl, by omega, by omega, by omega, by omega, (by have := H.out; rw [Int.sub_mul]; omega)⟩
                  case measure => simp [intOf]; omega
              · obtain rfl : q = Q0 := (by have := hdec.1; omega)
                clear heq hdec f9 f10 f11
                go_wp2
                go_ret2
                exact ⟨by rw [hq.out, hr.out]; rfl, rfl⟩
        · have H := Lib.hid heq
          clear heq hdec e9 e10 e11
          go_wp2
          go_round
          case rel => exact ⟨q - 1, r + a, rfl, rfl, by omega, by omega, by omega, by omega, (by have := H.out; rw [Int.sub_mul]; omega)⟩
          case measure => simp [intOf]; omega
      · obtain rfl : q = Q1 := (by have := hdec.1; omega)
        clear heq hdec e9 e10 e11
        go_wp2
        go_loop [18, 16] (fun x y => ∃ q r : Int, x = .int .u64 q ∧ y = .int .u64 r ∧ Q0 ≤ q ∧ q ≤ 4294967297 ∧ 0 ≤ r ∧ r < 4294967296 ∧ q * a + r = R1) (fun x _ => (intOf x).toNat)
        case atStart => exact ⟨qj, rj, (by first | rfl | rw [f9]), rfl, Q0q, qj1, rj0, rj1, by omega⟩
        case round =>
          obtain ⟨q, r, rfl, rfl, q0, q1, r0, r1, heq⟩ := hrel
          have hdec := (hQ0.out q r heq r0)
          have hb0 : 0 ≤ q * b := Int.mul_nonneg (by omega) b0
          by_cases c1 : 4294967296 ≤ q
          · by_cases c2 : 4294967296 ≤ r + a
            · obtain rfl : q = Q0 + 1 := (brk hQ0.out heq q0 q1 r0 r1 n00 b0 b1 Q00 c2 (by omega))
              clear heq hdec f9 f10 f11
              go_wp2
              go_ret2
              exact ⟨by rw [hq.out, hr.out]; rfl, rfl⟩
            · have H := Lib.hid heq
              clear heq hdec f9 f10 f11
              go_wp2
              go_round
              case rel => exact ⟨q - 1, r + a, rfl, rfl, by omega, by omega, by omega, by omega, (by have := H.out; rw [Int.sub_mul]; omega)⟩
              case measure => simp [intOf]; omega
          · have hb1 : q * b ≤ 18446744069414584320 := mulb q b (by omega) b0 (by omega) b1
            by_cases c3 : 4294967296 * r + n0 < q * b
            · have c4 : Q0 < q := hdec.2 c3
              by_cases c2 : 4294967296 ≤ r + a
              · obtain rfl : q = Q0 + 1 := (brk hQ0.out heq q0 q1 r0 r1 n00 b0 b1 Q00 c2 c4)
                clear heq hdec f9 f10 f11
                go_wp2
                go_ret2
                exact ⟨by rw [hq.out, hr.out]; rfl, rfl⟩
              · have H := Lib.hid heq
                clear heq hdec f9 f10 f11
                go_wp2
                go_round
                case rel => exact ⟨q - 1, r + a, rfl, rfl, by omega, by omega, by omega, by omega, (by have := H.out; rw [Int.sub_mul]; omega)⟩
                case measure => simp [intOf]; omega
            · obtain rfl : q = Q0 := (by have := hdec.1; omega)
              clear heq hdec f9 f10 f11
              go_wp2
              go_ret2
              exact ⟨by rw [hq.out, hr.out]; rfl, rfl⟩

open Go.Proofs.Num
theorem wrapR (u n Q v R : Int) (e : u * 4294967296 + n = Q * v + R) (r0 : 0 ≤ R) (r1 : R < 18446744073709551616) :
    IntKind.u64.wrap (IntKind.u64.wrap (IntKind.u64.wrap (u * 4294967296) + n) - IntKind.u64.wrap (Q * v)) = R := by
  simp only [IntKind.wrap_u64]
  generalize Q * v = z at *
  omega
set_option maxHeartbeats 1000000 in
theorem div64_pos (hi lo y : Int) (h0 : 0 < hi) (h1 : hi < y) (h2 : 0 ≤ lo) (h3 : lo < 18446744073709551616) (h4 : y < 18446744073709551616) (w : World) :
    Calls Try.prog 86 #[.int .u64 hi, .int .u64 lo, .int .u64 y] w fun e w' => e = .returned (.tuple #[.int .u64 ((hi * 18446744073709551616 + lo) / y), .int .u64 ((hi * 18446744073709551616 + lo) % y)]) ∧ w' = w := by
  obtain ⟨s, hl, s63, v0, v1⟩ := norm_shift y (by omega) h4
  have Sp : (0 : Int) < 2 ^ s := Int.pow_pos (by decide)
  have Tp : (0 : Int) < 2 ^ (64 - s) := Int.pow_pos (by decide)
  have ST : (2 : Int) ^ (64 - s) * 2 ^ s = 18446744073709551616 := by
    rw [← Int.pow_add, show 64 - s + s = 64 from by omega]; rfl
  have hS : hi * 2 ^ s < y * 2 ^ s := Int.mul_lt_mul_of_pos_right h1 Sp
  have hS0 : 0 ≤ hi * 2 ^ s := Int.mul_nonneg (by omega) (by omega)
  have l0 : 0 ≤ lo / 2 ^ (64 - s) := Int.ediv_nonneg h2 (by omega)
  have l1 : lo / 2 ^ (64 - s) < 2 ^ s := by rw [Int.ediv_lt_iff_lt_mul Tp, Int.mul_comm, ST]; exact h3
  have lw : lo / 2 ^ (64 - s) = lo * 2 ^ s / 18446744073709551616 := by
    rw [← ST]; exact (Int.mul_ediv_mul_of_pos_left _ _ Sp).symm
  have ej := or_join hi (lo / 2 ^ (64 - s)) s (by omega) (by omega) l0 l1 (by omega)
  have uB : hi * 2 ^ s + lo / 2 ^ (64 - s) < y * 2 ^ s := by
    have : (hi + 1) * 2 ^ s ≤ y * 2 ^ s := Int.mul_le_mul_of_nonneg_right (by omega) (by omega)
    rw [Int.add_mul] at this
    omega
  have NS : (hi * 18446744073709551616 + lo) * 2 ^ s = (hi * 2 ^ s + lo / 2 ^ (64 - s)) * 18446744073709551616 + lo * 2 ^ s % 18446744073709551616 := by
    rw [lw, Int.add_mul, Int.mul_right_comm]
    omega
  have wv : IntKind.u64.wrap (y * 2 ^ s) = y * 2 ^ s := by rw [IntKind.wrap_u64]; omega
  have wm : IntKind.u64.wrap (lo * 2 ^ s) = lo * 2 ^ s % 18446744073709551616 := by rw [IntKind.wrap_u64]
  obtain ⟨u, hu⟩ : ∃ u, u = hi * 2 ^ s + lo / 2 ^ (64 - s) := ⟨_, rfl⟩
  obtain ⟨m, hm⟩ : ∃ m, m = lo * 2 ^ s % 18446744073709551616 := ⟨_, rfl⟩
  obtain ⟨v, hv⟩ : ∃ v, v = y * 2 ^ s := ⟨_, rfl⟩
  rw [← hu, ← hm] at NS
  rw [← hu] at ej uB
  rw [← hv] at uB v0 v1 wv
  rw [← hm] at wm
  have m0 : 0 ≤ m ∧ m < 18446744073709551616 := by rw [hm]; omega
  have u0 : 0 ≤ u := by rw [hu]; omega
  have ev : v = v / 4294967296 * 4294967296 + v % 4294967296 := by omega
  obtain ⟨q10, q11, q12, q13, q14, q15⟩ := digit (v / 4294967296) (v % 4294967296) u (m / 4294967296) (by omega) (by omega) (by omega) (by omega) u0 (by omega) (by omega) (by omega)
  rw [← ev] at q10 q11 q12 q15
  have R1e := Int.mul_ediv_add_emod (u * 4294967296 + m / 4294967296) v
  have R10 := Int.emod_nonneg (u * 4294967296 + m / 4294967296) (show v ≠ 0 by omega)
  have R11 := Int.emod_lt_of_pos (u * 4294967296 + m / 4294967296) (show 0 < v by omega)
  obtain ⟨Q1, hQ1⟩ : ∃ Q1, Q1 = (u * 4294967296 + m / 4294967296) / v := ⟨_, rfl⟩
  obtain ⟨R1, hR1⟩ : ∃ R1, R1 = (u * 4294967296 + m / 4294967296) % v := ⟨_, rfl⟩
  rw [← hQ1] at q10 q11 q12 q15 R1e
  rw [← hR1] at R1e R10 R11
  obtain ⟨p10, p11, p12, p13, p14, p15⟩ := digit (v / 4294967296) (v % 4294967296) R1 (m % 4294967296) (by omega) (by omega) (by omega) (by omega) R10 (by omega) (by omega) (by omega)
  rw [← ev] at p10 p11 p12 p15
  have R0e := Int.mul_ediv_add_emod (R1 * 4294967296 + m % 4294967296) v
  have R00 := Int.emod_nonneg (R1 * 4294967296 + m % 4294967296) (show v ≠ 0 by omega)
  have R01 := Int.emod_lt_of_pos (R1 * 4294967296 + m % 4294967296) (show 0 < v by omega)
  obtain ⟨Q0, hQ0⟩ : ∃ Q0, Q0 = (R1 * 4294967296 + m % 4294967296) / v := ⟨_, rfl⟩
  obtain ⟨R0, hR0⟩ : ∃ R0, R0 = (R1 * 4294967296 + m % 4294967296) % v := ⟨_, rfl⟩
  rw [← hQ0] at p10 p11 p12 p15 R0e
  rw [← hR0] at R0e R00 R01
  obtain ⟨g1, g2⟩ := recompose (hi * 18446744073709551616 + lo) (2 ^ s) y u (m / 4294967296) (m % 4294967296) Sp (by omega) (by omega) (by omega) (by omega) (by omega) (by omega) R1 Q1 Q0 R0
    (by rw [← hv, Int.mul_comm Q1]; exact R1e.symm) (by rw [← hv, Int.mul_comm Q0]; exact R0e.symm) R00 (by rw [← hv]; exact R01)
  have du := Int.mul_ediv_add_emod u (v / 4294967296)
  have du0 := Int.emod_nonneg u (show v / 4294967296 ≠ 0 by omega)
  have du1 := Int.emod_lt_of_pos u (show 0 < v / 4294967296 by omega)
  have dr := Int.mul_ediv_add_emod R1 (v / 4294967296)
  have dr0 := Int.emod_nonneg R1 (show v / 4294967296 ≠ 0 by omega)
  have dr1 := Int.emod_lt_of_pos R1 (show 0 < v / 4294967296 by omega)
  have um : u / (v / 4294967296) * (v / 4294967296) = v / 4294967296 * (u / (v / 4294967296)) := Int.mul_comm _ _
  have rm : R1 / (v / 4294967296) * (v / 4294967296) = v / 4294967296 * (R1 / (v / 4294967296)) := Int.mul_comm _ _
  have t0 : 0 ≤ v / 4294967296 * (u / (v / 4294967296)) := Int.mul_nonneg (by omega) q13
  have t1 : 0 ≤ v / 4294967296 * (R1 / (v / 4294967296)) := Int.mul_nonneg (by omega) p13
  exact div64_walk hi lo y v (v / 4294967296) (v % 4294967296) u m (m / 4294967296) (m % 4294967296) (u / (v / 4294967296)) _ _ Q1 R1 (R1 / (v / 4294967296)) _ _ Q0 R0 _ _ s h0 h1 h2 h3 h4 (by omega) hl (by omega) (by rw [hv] at wv ⊢; exact wv) v0 v1 (by rw [beq_eq_false_iff_ne]; omega)
    rfl (and_mask v (by omega) v1) ej wm rfl (and_mask m m0.1 m0.2) rfl rfl rfl (by omega) (by omega) (by omega) (by omega) u0 uB (by omega) (by omega) (by omega) (by omega) q13 q14 (by omega) (by omega) (by omega) (by omega)
    q10 q11 q12 (Lib.hid q15) (wrapR _ _ _ _ _ (by rw [Int.mul_comm Q1]; omega) R10 (by omega)) R10 R11 rfl rfl rfl p13 p14 (by omega) (by omega) (by omega) (by omega) p10 p11 p12 (Lib.hid p15) (wrapR _ _ _ _ _ (by rw [Int.mul_comm Q0]; omega) R00 (by omega))
    (Lib.hid g1.symm) (Lib.hid g2.symm) w
theorem div64_any (hi lo y : Int) (h0 : 0 ≤ hi) (h1 : hi < y) (h2 : 0 ≤ lo) (h3 : lo < 18446744073709551616) (h4 : y < 18446744073709551616) (w : World) :
    Calls Try.prog 86 #[.int .u64 hi, .int .u64 lo, .int .u64 y] w fun e w' => e = .returned (.tuple #[.int .u64 ((hi * 18446744073709551616 + lo) / y), .int .u64 ((hi * 18446744073709551616 + lo) % y)]) ∧ ∃ n, w' = w.drewN n := by
  by_cases hz : hi = 0
  · subst hz
    have q0 : 0 ≤ lo / y := Int.ediv_nonneg h2 (by omega)
    have q1 : lo / y ≤ lo := Int.ediv_le_self _ h2
    have y0 : (y == 0) = false := by rw [beq_eq_false_iff_ne]; omega
    go_enter Try.func86, Try.ntmps86
    go_wp2
    go_quiet (fail)
    go_wp2
    go_ret2
    exact ⟨by simp, _, rfl⟩
  · exact (div64_pos hi lo y (by omega) h1 h2 h3 h4 w).mono fun e w' ⟨a, b⟩ => ⟨a, 0, b⟩

end Go.Proofs.Ytmelbgabiklojaa
