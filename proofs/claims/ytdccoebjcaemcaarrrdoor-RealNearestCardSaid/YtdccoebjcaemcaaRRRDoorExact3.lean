/- The reference of law 3: exact values. -/
import Derived.Test.YtdccoebjcaemcaaRRRDoorFrac
import Derived.Test.YtdccoebjcaemcaaRRRDoorExact
import Derived.WalkKit
import Derived.WalkSpells
import Derived.WalkLawsBesides
import Derived.Handy
import Derived.Lib.Hide
import Derived.Outline
namespace Go.Proofs.YtdccoebjcaemcaaRRRDoor
open Go.RowKit Go.Proofs.Flo Go.Proofs.Big Go.Proofs.Reg
set_option linter.unusedVariables false
set_option linter.unusedSimpArgs false
set_option maxRecDepth 100000
/-- two fractions in lowest terms that are one number -/
theorem frac_one {n d N D : Int} (h : n * D = N * d) (g1 : Int.gcd n d = 1) (g2 : Int.gcd N D = 1) (d0 : 0 < d) (D0 : 0 < D) : N = n ∧ D = d := by
  have a : d ∣ D := by
    have : d ∣ n * D := ⟨N, by rw [h, Int.mul_comm]⟩
    have k := Int.dvd_gcd_mul_iff_dvd_mul.2 this
    rw [Int.gcd_comm, g1] at k
    simpa using k
  have b : D ∣ d := by
    have : D ∣ N * d := ⟨n, by rw [← h, Int.mul_comm]⟩
    have k := Int.dvd_gcd_mul_iff_dvd_mul.2 this
    rw [Int.gcd_comm, g2] at k
    simpa using k
  have e : D = d := Int.dvd_antisymm (by omega) (by omega) b a
  subst e
  exact ⟨(Int.eq_of_mul_eq_mul_right (by omega) h).symm, rfl⟩
/-- the fraction in lowest terms -/
structure LowF (x : Nat) (N D : Int) : Prop where
  e : N * U = sval x * D
  D0 : 0 < D
  D1 : D < P 68
  g : Int.gcd N D = 1
  N0 : -P 65 < N
  N1 : N < P 65
theorem lowf_any (x : Nat) (hf : rung x < 9218868437227405312) : ∃ N D, LowF x N D ∧ ∀ (ng mg : Bool) (a b : Option Addr) (la ca lb cb : Nat) (w : World), BigV w ng a la ca (fracN x) → BigV w mg b lb cb (fracD x) →
    Calls Tryd.prog 30 #[.agg #[.bool ng, .slice a la ca], .agg #[.bool mg, .slice b lb cb]] w (RetBig2 w N D) := by
  obtain ⟨s1, s2, s3, s4, _⟩ := frac_size x hf
  have fe := frac_eq x hf
  obtain ⟨n, hn⟩ : ∃ N, fracN x = N := ⟨_, rfl⟩
  obtain ⟨d, hd⟩ : ∃ D : Int, (fracD x : Int) = D := ⟨_, rfl⟩
  rw [hn, hd] at fe
  rw [hn] at s1 s2
  rw [hd] at s3 s4
  have p68 : P 68 < P 99 := by
    have h1 : P 69 = 65536 * P 68 := P_succ 68
    have h2 := P_mono (show 69 ≤ 99 by decide)
    have := P_pos 68
    omega
  have p65 := P_mono (show 65 ≤ 68 by decide)
  have g0 : 0 < ((Int.gcd n d : Nat) : Int) := by
    have := Int.gcd_pos_of_ne_zero_right n (show d ≠ 0 by omega)
    omega
  obtain ⟨y, hy⟩ := Int.gcd_dvd_left (a := n) (b := d)
  obtain ⟨z, hz⟩ := Int.gcd_dvd_right (a := n) (b := d)
  have gg : Int.gcd y z = 1 := by
    have h1 : Int.gcd (((Int.gcd n d : Nat) : Int) * y) (((Int.gcd n d : Nat) : Int) * z) = Int.gcd n d := by rw [← hy, ← hz]
    rw [Int.gcd_mul_left, Int.natAbs_natCast] at h1
    have : 0 < Int.gcd n d := by omega
    exact Nat.eq_of_mul_eq_mul_left this (by rw [h1, Nat.mul_one])
  obtain ⟨g, hg⟩ : ∃ g : Int, ((Int.gcd n d : Nat) : Int) = g := ⟨_, rfl⟩
  rw [hg] at hy hz g0
  have z0 : 0 < z := by
    by_cases c : 0 < z
    · exact c
    · have := Int.mul_le_mul_of_nonneg_left (show z ≤ 0 by omega) (show 0 ≤ g by omega)
      omega
  have zb : z ≤ d := by
    have := Int.mul_le_mul_of_nonneg_right (show 1 ≤ g by omega) (show 0 ≤ z by omega)
    omega
  have yb : -P 65 < y ∧ y < P 65 := by
    by_cases c : 0 ≤ y
    · have := Int.mul_le_mul_of_nonneg_right (show 1 ≤ g by omega) c
      omega
    · have := Int.mul_le_mul_of_nonpos_right (show 1 ≤ g by omega) (show y ≤ 0 by omega)
      omega
  refine ⟨y, z, ⟨?_, z0, by omega, gg, yb.1, yb.2⟩, fun ng mg a b la ca lb cb w ha hb => ?_⟩
  · refine Int.eq_of_mul_eq_mul_right (show g ≠ 0 by omega) ?_
    rw [hy, hz] at fe
    grind
  · rw [hn] at ha
    rw [hd] at hb
    have := lowest_any ng mg a b la ca lb cb n d w ha hb (Lib.hid ⟨by omega, by omega, by omega, by omega, by omega⟩)
    rw [hg] at this
    have e1 : (if (ng != mg) = true then -((if n < 0 then -n else n) / g) else (if n < 0 then -n else n) / g) = y := by
      rw [ha.hng, hb.hng, decide_eq_false (show ¬ d < 0 by omega)]
      by_cases c : n < 0
      · rw [decide_eq_true c, if_pos (by decide), if_pos c, hy, show -(g * y) = g * (-y) by grind, Int.mul_ediv_cancel_left _ (by omega)]
        omega
      · rw [decide_eq_false c, if_neg (by decide), if_neg c, hy, Int.mul_ediv_cancel_left _ (by omega)]
    have e2 : (if d < 0 then -d else d) / g = z := by
      rw [if_neg (by omega), hz, Int.mul_ediv_cancel_left _ (by omega)]
    rw [e1, e2] at this
    exact this
/-- what the lowest terms are of a number that is bounded, and of one that isn't -/
theorem LowF.spl {x : Nat} {N D n : Int} {h : Nat} (L : LowF x N D) (S : Spl3 x n h) : N = n ∧ D = 2 ^ h := by
  have u := U_int
  have p : (0 : Int) < 2 ^ h := Int.pow_pos (by decide)
  refine frac_one (n := n) (d := 2 ^ h) ?_ (gcd_pow n h S.odd) L.g p L.D0
  refine Int.eq_of_mul_eq_mul_right (show (U : Int) ≠ 0 by omega) ?_
  have e1 := S.e
  have e2 := L.e
  have : n * D * (U : Int) = n * U * D := by grind
  rw [this, e1]
  have : N * 2 ^ h * (U : Int) = N * U * 2 ^ h := by grind
  rw [this, e2]
  grind
theorem LowF.far {x : Nat} {N D : Int} (L : LowF x N D) (h : ¬ (-(9223372036854775808 * (U : Int)) ≤ sval x ∧ sval x < 9223372036854775808 * U)) : ¬ (-9223372036854775808 ≤ N ∧ N < 9223372036854775808) := by
  have u := U_int
  have e := L.e
  have d := L.D0
  intro c
  by_cases a : sval x < 9223372036854775808 * (U : Int)
  · have b : sval x < -(9223372036854775808 * (U : Int)) := by omega
    have h1 : sval x * D ≤ sval x * 1 := Int.mul_le_mul_of_nonpos_left (by omega) (by omega)
    have h2 : -9223372036854775808 * (U : Int) ≤ N * U := Int.mul_le_mul_of_nonneg_right c.1 (by omega)
    omega
  · have h1 : sval x * 1 ≤ sval x * D := Int.mul_le_mul_of_nonneg_left (by omega) (by omega)
    have h2 : N * (U : Int) ≤ 9223372036854775807 * U := Int.mul_le_mul_of_nonneg_right (by omega) (by omega)
    omega
theorem small68 {n : Int} (h0 : -P 68 < n) (h1 : n < P 68) : Sm n := by
  have := P_mono (show 68 ≤ 100 by decide)
  exact ⟨by omega, by omega⟩
set_option maxHeartbeats 1000000 in
theorem r3exact_fin (x : Nat) (N D E : Int) (hx : x < 18446744073709551616) (hf : rung x < 9218868437227405312) (y z : Int) (L : LowF x y z)
    (LW : ∀ (ng mg : Bool) (a b : Option Addr) (la ca lb cb : Nat) (w : World), BigV w ng a la ca (fracN x) → BigV w mg b lb cb (fracD x) → Calls Tryd.prog 30 #[.agg #[.bool ng, .slice a la ca], .agg #[.bool mg, .slice b lb cb]] w (RetBig2 w y z))
    (fn fm : Bool) (kn km : Int) (h1 : fn = decide (-9223372036854775808 ≤ y ∧ y < 9223372036854775808)) (h2 : kn = if -9223372036854775808 ≤ y ∧ y < 9223372036854775808 then y else 0)
    (h3 : fm = decide (-9223372036854775808 ≤ z ∧ z < 9223372036854775808)) (h4 : km = if -9223372036854775808 ≤ z ∧ z < 9223372036854775808 then z else 0)
    (hr : ((fn && fm) = true ∧ N = kn ∧ D = km ∧ E = 0) ∨ ((fn && fm) = false ∧ N = 0 ∧ D = 0 ∧ E = 2)) (w : World) :
    Calls Tryd.prog 11 #[.int .u64 (x : Int)] w fun e w' => e = .returned (.tuple #[.int .i64 N, .int .i64 D, .int .i64 E]) ∧ Below w.heap.size w w' := by
  have K := Lib.hid (kind3_any x hx)
  have FR := Lib.hid (fraction_any x hx hf)
  have SY := Lib.hid (small68 (show -P 68 < y by have := L.N0; have := P_mono (show 65 ≤ 68 by decide); omega) (by have := L.N1; have := P_mono (show 65 ≤ 68 by decide); omega))
  have SZ := Lib.hid (small68 (show -P 68 < z by have := L.D0; have := P_pos 68; omega) L.D1)
  have IN := Lib.hid (fun (ng mg : Bool) (a b : Option Addr) (la ca lb cb : Nat) (w : World) (ha : BigV w ng a la ca y) (hb : BigV w mg b lb cb z) => ints_any ng mg a b la ca lb cb y z w ha hb (Nat.le_trans (Sm.le ha SY.out) (by decide)) (Nat.le_trans (Sm.le hb SZ.out) (by decide)) fn fm kn km (Lib.hid h1) (Lib.hid h2) (Lib.hid h3) (Lib.hid h4))
  have LL := Lib.hid LW
  obtain ⟨N1, hN⟩ : ∃ N, fracN x = N := ⟨_, rfl⟩
  obtain ⟨D1, hD⟩ : ∃ D : Int, (fracD x : Int) = D := ⟨_, rfl⟩
  rw [hN, hD] at FR LL
  have kk : ∃ r : Int, kindN x = r ∧ (r == 1) = false ∧ (r == 2) = false := by
    unfold kindN
    rw [nan_num hf, inf_num hf]
    simp only [Bool.false_eq_true, if_false]
    split
    · exact ⟨3, rfl, rfl, rfl⟩
    · split
      · exact ⟨4, rfl, rfl, rfl⟩
      · exact ⟨5, rfl, rfl, rfl⟩
  obtain ⟨r, hr', r1, r2⟩ := kk
  rw [hr'] at K
  obtain ⟨ks, hks⟩ : ∃ b, kindS x = b := ⟨_, rfl⟩
  rw [hks] at K
  obtain ⟨ok, hok⟩ : ∃ b, (fn && fm) = b := ⟨_, rfl⟩
  rw [hok] at IN hr
  clear hr' hks hN hD hf hx LW L h1 h2 h3 h4 hok
  rcases hr with ⟨rfl, rfl, rfl, rfl⟩ | ⟨rfl, rfl, rfl, rfl⟩
  all_goals
    go_enter Tryd.func11, Tryd.ntmps11
    go_wp2_with fail
    refine (K.out _).mono ?_
    rintro e w1 ⟨rfl, hw⟩
    obtain rfl := hw.symm
    go_wp2_with fail
    refine (FR.out _).mono ?_
    rintro e w2 ⟨n1, a1, l1, c1, n2, a2, l2, c2, rfl, v1, v2, hb⟩
    have b2 := bel_tr0 (bel_new w2 (.cells #[.bool n1, .slice a1 l1 c1] 41)) (bel_new _ (.cells #[.bool n2, .slice a2 l2 c2] 41))
    have K2 := Lib.hid (bel_tr0 hb b2)
    have V1 := Lib.hid (v1.later b2)
    have V2 := Lib.hid (v2.later b2)
    clear v1 v2 hb b2
    go_wp2_with fail
    refine (LL.out _ _ _ _ _ _ _ _ _ V1.out V2.out).mono ?_
    rintro e w3 ⟨n3, a3, l3, c3, n4, a4, l4, c4, rfl, v3, v4, hb⟩
    have b3 := bel_tr0 (bel_new w3 (.cells #[.bool n3, .slice a3 l3 c3] 41)) (bel_new _ (.cells #[.bool n4, .slice a4 l4 c4] 41))
    have K3 := Lib.hid (bel_tr0 (bel_tr0 K2.out hb) b3)
    have V3 := Lib.hid (v3.later b3)
    have V4 := Lib.hid (v4.later b3)
    clear v3 v4 hb b3 V1 V2 K2
    go_wp2_with fail
    refine (IN.out _ _ _ _ _ _ _ _ _ V3.out V4.out).mono ?_
    rintro e w4 ⟨rfl, hb⟩
    have K4 := Lib.hid (bel_tr0 K3.out hb)
    clear hb
    go_wp2_with fail
    go_returns
    exact ⟨rfl, K4.out⟩
theorem r3exact_nan (x : Nat) (hx : x < 18446744073709551616) (nn : nanB x = true) (w : World) : Calls Tryd.prog 11 #[.int .u64 (x : Int)] w fun e w' => e = .returned (.tuple #[.int .i64 0, .int .i64 0, .int .i64 4]) ∧ Below w.heap.size w w' := by
  have K := Lib.hid (kind3_any x hx)
  rw [show kindN x = 1 by unfold kindN; rw [nn]; rfl, show kindS x = false by unfold kindS; rw [nn]; rfl] at K
  clear nn hx
  go_enter Tryd.func11, Tryd.ntmps11
  go_wp2_with fail
  refine (K.out _).mono ?_
  rintro e w1 ⟨rfl, rfl⟩
  go_wp2_with fail
  go_returns
  exact ⟨rfl, Below.refl _ _⟩
theorem r3exact_inf (x : Nat) (hx : x < 18446744073709551616) (nn : nanB x = false) (ii : infB x = true) (w : World) : Calls Tryd.prog 11 #[.int .u64 (x : Int)] w fun e w' => e = .returned (.tuple #[.int .i64 0, .int .i64 0, .int .i64 5]) ∧ Below w.heap.size w w' := by
  have K := Lib.hid (kind3_any x hx)
  obtain ⟨s, hs⟩ : ∃ s, sgn x = s := ⟨_, rfl⟩
  rw [show kindN x = 2 by unfold kindN; rw [nn, ii]; rfl, show kindS x = s by unfold kindS; rw [nn, hs]; rfl] at K
  clear nn hx ii hs
  go_enter Tryd.func11, Tryd.ntmps11
  go_wp2_with fail
  refine (K.out _).mono ?_
  rintro e w1 ⟨rfl, rfl⟩
  go_wp2_with fail
  go_returns
  exact ⟨rfl, Below.refl _ _⟩
theorem pow_out (h : Nat) (c : 62 < h) : ¬ ((2 : Int) ^ h < 9223372036854775808) := by
  obtain ⟨k, rfl⟩ : ∃ k, h = k + 62 := ⟨h - 62, by omega⟩
  have k1 : 1 ≤ k := by omega
  obtain ⟨m, rfl⟩ : ∃ m, k = m + 1 := ⟨k - 1, by omega⟩
  have p := pow_ge m
  have e : (2 : Int) ^ (m + 1 + 62) = 2 ^ m * 2 * 4611686018427387904 := by
    rw [Int.pow_add, Int.pow_succ]; rfl
  rw [e]
  clear e c
  generalize (2 : Int) ^ m = q at *
  omega
theorem r3exact_any (x : Nat) (N D E : Int) (hx : x < 18446744073709551616) (R : ExR x N D E) (w : World) : Calls Tryd.prog 11 #[.int .u64 (x : Int)] w fun e w' => e = .returned (.tuple #[.int .i64 N, .int .i64 D, .int .i64 E]) ∧ Below w.heap.size w w' := by
  rcases R.cs with ⟨nn, rfl, rfl, rfl⟩ | ⟨nn, ii, rfl, rfl, rfl⟩ | ⟨hf, far, rfl, rfl, rfl⟩ | ⟨hf, ⟨n, h, S, c⟩, rfl, rfl, rfl⟩ | ⟨hf, h, S, c, rfl, rfl⟩
  · exact r3exact_nan x hx nn w
  · exact r3exact_inf x hx nn ii w
  · obtain ⟨y, z, L, LW⟩ := lowf_any x hf
    exact r3exact_fin x 0 0 2 hx hf y z L LW _ _ _ _ rfl rfl rfl rfl (.inr ⟨by rw [decide_eq_false (L.far far)]; rfl, rfl, rfl, rfl⟩) w
  · obtain ⟨y, z, L, LW⟩ := lowf_any x hf
    obtain ⟨e1, e2⟩ := L.spl S
    have hz : decide (-9223372036854775808 ≤ z ∧ z < 9223372036854775808) = false := decide_eq_false fun k => pow_out h c (by rw [← e2]; exact k.2)
    exact r3exact_fin x 0 0 2 hx hf y z L LW _ false _ _ rfl rfl hz.symm rfl (.inr ⟨Bool.and_false _, rfl, rfl, rfl⟩) w
  · obtain ⟨y, z, L, LW⟩ := lowf_any x hf
    obtain ⟨e1, e2⟩ := L.spl S
    have p0 := pow_ge h
    have p1 := pow_le62 h c
    have a := S.n0
    have b := S.n1
    rw [← e2] at p0 p1 ⊢
    rw [← e1] at a b ⊢
    have c1 : -9223372036854775808 ≤ y ∧ y < 9223372036854775808 := by omega
    have c2 : -9223372036854775808 ≤ z ∧ z < 9223372036854775808 := by omega
    exact r3exact_fin x y z 0 hx hf y z L LW true true y z (decide_eq_true c1).symm (if_pos c1).symm (decide_eq_true c2).symm (if_pos c2).symm (.inl ⟨rfl, rfl, rfl, rfl⟩) w
end Go.Proofs.YtdccoebjcaemcaaRRRDoor
