/- Package ratio: Of, Down, Half. -/
import Derived.Test.YtjemnjboopabpaaDoorRatio
import Derived.WalkKit
import Derived.WalkSpells
import Derived.WalkLawsBesides
import Derived.Handy
import Derived.Lib.Hide
import Derived.Deep.QuietTactic
import Derived.BigQuiet
import Derived.LoopTactic
import Derived.Deep.RegionHeld3
import Derived.Deep.RegionWith
import Derived.Outline
import Derived.Deep.DeepCutAuto
namespace Go.Proofs.YtjemnjboopabpaaDoor
open Go.RowKit
set_option linter.unusedVariables false
set_option maxRecDepth 100000
set_option linter.unusedSimpArgs false


/-- what the making of a ratio hands on -/
structure Lowest (n d g N D : Int) : Prop where
  n0 : -9223372036854775808 ≤ n
  n1 : n ≤ 9223372036854775807
  d0 : -9223372036854775808 ≤ d
  d1 : d ≤ 9223372036854775807
  dz : d ≠ 0
  hg : ((Int.gcd n d : Nat) : Int) = g
  eN : N * g = if d < 0 then -n else n
  eD : D * g = if d < 0 then -d else d
theorem lowest_ex (n d : Int) (n0 : -9223372036854775808 ≤ n) (n1 : n ≤ 9223372036854775807) (d0 : -9223372036854775808 ≤ d) (d1 : d ≤ 9223372036854775807) (dz : d ≠ 0) : ∃ g N D, Lowest n d g N D := by
  have a := Int.gcd_dvd_left (a := n) (b := d)
  have b := Int.gcd_dvd_right (a := n) (b := d)
  obtain ⟨x, hx⟩ := a
  obtain ⟨y, hy⟩ := b
  by_cases h : d < 0
  · exact ⟨_, -x, -y, n0, n1, d0, d1, dz, rfl, by rw [if_pos h, Int.neg_mul, Int.mul_comm]; omega, by rw [if_pos h, Int.neg_mul, Int.mul_comm]; omega⟩
  · exact ⟨_, x, y, n0, n1, d0, d1, dz, rfl, by rw [if_neg h, Int.mul_comm]; omega, by rw [if_neg h, Int.mul_comm]; omega⟩
theorem Lowest.gpos {n d g N D : Int} (L : Lowest n d g N D) : 1 ≤ g := by
  have : 0 < Int.gcd n d := Int.gcd_pos_of_ne_zero_right n L.dz
  have := L.hg
  omega
theorem Lowest.Dpos {n d g N D : Int} (L : Lowest n d g N D) : 1 ≤ D := by
  have g0 := L.gpos
  have e := L.eD
  have z := L.dz
  by_cases h : 1 ≤ D
  · exact h
  · have : D * g ≤ 0 * g := Int.mul_le_mul_of_nonneg_right (by omega) (by omega)
    exfalso
    rw [Int.zero_mul] at this
    split at e <;> omega
theorem div_of_mul {a g x : Int} (h : a * g = x) (g0 : 1 ≤ g) : x / g = a := by
  rw [← h]; exact Int.mul_ediv_cancel _ (by omega)
theorem Lowest.gle {n d g N D : Int} (L : Lowest n d g N D) : g ≤ 9223372036854775808 := by
  have g0 := L.gpos
  have e := L.eD
  have D0 := L.Dpos
  have d0 := L.d0
  have d1 := L.d1
  have := Int.mul_le_mul_of_nonneg_right (c := g) D0 (by omega)
  split at e <;> omega
/-- |N| = |n| / g, |D| = |d| / g -/
theorem Lowest.quo {n d g N D : Int} (L : Lowest n d g N D) : (if n < 0 then -n else n) / g = (if N < 0 then -N else N) ∧ (if d < 0 then -d else d) / g = D := by
  have g0 := L.gpos
  refine ⟨div_of_mul ?_ g0, div_of_mul L.eD g0⟩
  have e := L.eN
  have np : N < 0 → N * g ≤ -1 * g := fun h => Int.mul_le_mul_of_nonneg_right (by omega) (by omega)
  have pp : 0 ≤ N → 0 ≤ N * g := fun h => Int.mul_nonneg h (by omega)
  by_cases hN : N < 0
  · have := np hN
    rw [if_pos hN, Int.neg_mul]
    split at e <;> split <;> omega
  · have := pp (by omega)
    rw [if_neg hN]
    by_cases z : N = 0
    · subst z
      simp at e ⊢
      split at e <;> split <;> omega
    · have : 1 * g ≤ N * g := Int.mul_le_mul_of_nonneg_right (by omega) (by omega)
      split at e <;> split <;> omega
theorem Lowest.sign {n d g N D : Int} (L : Lowest n d g N D) : (N < 0 → (!(decide (n < 0) == decide (d < 0))) = true) ∧ (0 < N → (!(decide (n < 0) == decide (d < 0))) = false) ∧ (N = 0 → n = 0) := by
  have g0 := L.gpos
  have e := L.eN
  have np : N < 0 → N * g ≤ -1 * g := fun h => Int.mul_le_mul_of_nonneg_right (by omega) (by omega)
  have pp : 1 ≤ N → 1 * g ≤ N * g := fun h => Int.mul_le_mul_of_nonneg_right (by omega) (by omega)
  refine ⟨fun h => ?_, fun h => ?_, fun h => ?_⟩
  · have := np h
    by_cases hd : d < 0
    · rw [if_pos hd] at e
      simp [hd]; omega
    · rw [if_neg hd] at e
      simp [hd]; omega
  · have := pp (by omega)
    by_cases hd : d < 0
    · rw [if_pos hd] at e
      simp [hd]; omega
    · rw [if_neg hd] at e
      simp [hd]; omega
  · subst h
    simp at e
    split at e <;> omega

theorem of_zero (n : Int) (w : World) :
    Calls Tryd.prog 21 #[.int .i64 n, .int .i64 0] w fun e w' => e = .returned (.tuple #[.agg #[.int .i64 0, .int .i64 0], .int .i64 3]) ∧ Below w.heap.size w w' := by
  go_enter Tryd.func21, Tryd.ntmps21
  go_wp2
  go_returns
  exact ⟨rfl, by go_grown⟩
set_option maxHeartbeats 1000000 in
theorem of_mid (n d g N D m k a b : Int) (fits : Bool) (sg : Bool) (n0 : -9223372036854775808 ≤ n) (n1 : n ≤ 9223372036854775807) (d0 : -9223372036854775808 ≤ d) (d1 : d ≤ 9223372036854775807) (dz : ¬ d = 0) (dzb : (d == 0) = false)
    (hm : Hid (m = if n < 0 then -n else n)) (hk : Hid (k = if d < 0 then -d else d)) (m0 : 0 ≤ m) (m1 : m < 18446744073709551616) (k0 : 0 ≤ k) (k1 : k < 18446744073709551616)
    (hg : Hid (((Int.gcd m k : Nat) : Int) = g)) (g0 : 1 ≤ g) (g1 : g < 18446744073709551616) (ga : m / g = a) (gb : k / g = b) (a0 : 0 ≤ a) (a1 : a < 18446744073709551616) (b0 : 0 ≤ b) (b1 : b < 18446744073709551616)
    (sd : (!(decide (n < 0) == decide (d < 0))) = sg) (fN fD : Bool) (N' D' : Int)
    (cN : ∀ w : World, Calls Tryd.prog 52 #[.int .u64 a, .bool sg] w fun e w' => e = .returned (.tuple #[.int .i64 N', .bool fN]) ∧ w' = w)
    (cD : ∀ w : World, Calls Tryd.prog 52 #[.int .u64 b, .bool false] w fun e w' => e = .returned (.tuple #[.int .i64 D', .bool fD]) ∧ w' = w)
    (er N'' D'' : Int) (hr : Hid (er = (if fN && fD then 0 else 2) ∧ N'' = (if fN && fD then N' else 0) ∧ D'' = (if fN && fD then D' else 0))) (w : World) :
    Calls Tryd.prog 21 #[.int .i64 n, .int .i64 d] w fun e w' => e = .returned (.tuple #[.agg #[.int .i64 N'', .int .i64 D''], .int .i64 er]) ∧ Below w.heap.size w w' := by
  have CN := Lib.hid cN
  have CD := Lib.hid cD
  clear cN cD
  go_enter Tryd.func21, Tryd.ntmps21
  go_wp2_with fail
  refine (rsize_any n m n0 n1 hm.out _).mono ?_
  rintro e w1 ⟨rfl, rfl⟩
  go_wp2_with fail
  refine (rsize_any d k d0 d1 hk.out _).mono ?_
  rintro e w2 ⟨rfl, rfl⟩
  go_wp2_with fail
  refine (divisor_any m k g m0 m1 k0 k1 hg _).mono ?_
  rintro e w3 ⟨rfl, nd, rfl⟩
  go_wp2_with fail
  refine (rsize_any n m n0 n1 hm.out _).mono ?_
  rintro e w4 ⟨rfl, rfl⟩
  go_wp2_with fail
  refine (CN.out _).mono ?_
  rintro e w5 ⟨rfl, rfl⟩
  go_wp2_with fail
  refine (rsize_any d k d0 d1 hk.out _).mono ?_
  rintro e w6 ⟨rfl, rfl⟩
  go_wp2_with fail
  refine (CD.out _).mono ?_
  rintro e w7 ⟨rfl, rfl⟩
  clear sd CN CD
  cases fN
  · obtain ⟨rfl, rfl, rfl⟩ := hr.out
    go_wp2_with fail
    go_returns
    exact ⟨rfl, (by repeat' (first | exact Below.refl _ _ | (with_reducible refine below_drewN ?_ _) | (with_reducible refine Below.drew ?_) | (with_reducible refine Below.alloc ?_ ?_ _) | (with_reducible refine Below.setCell ?_ ?_ _) | go_size))⟩
  · cases fD
    · obtain ⟨rfl, rfl, rfl⟩ := hr.out
      go_wp2_with fail
      go_returns
      exact ⟨rfl, (by repeat' (first | exact Below.refl _ _ | (with_reducible refine below_drewN ?_ _) | (with_reducible refine Below.drew ?_) | (with_reducible refine Below.alloc ?_ ?_ _) | (with_reducible refine Below.setCell ?_ ?_ _) | go_size))⟩
    · obtain ⟨rfl, rfl, rfl⟩ := hr.out
      go_wp2_with fail
      go_returns
      exact ⟨rfl, (by repeat' (first | exact Below.refl _ _ | (with_reducible refine below_drewN ?_ _) | (with_reducible refine Below.drew ?_) | (with_reducible refine Below.alloc ?_ ?_ _) | (with_reducible refine Below.setCell ?_ ?_ _) | go_size))⟩
theorem Lowest.Nle {n d g N D : Int} (L : Lowest n d g N D) : (if N < 0 then -N else N) ≤ 9223372036854775808 ∧ D ≤ 9223372036854775808 := by
  obtain ⟨q1, q2⟩ := L.quo
  have g0 := L.gpos
  have n0 := L.n0
  have n1 := L.n1
  have d0 := L.d0
  have d1 := L.d1
  have a0 : 0 ≤ (if n < 0 then -n else n) := by split <;> omega
  have b0 : 0 ≤ (if d < 0 then -d else d) := by split <;> omega
  have h1 := Int.ediv_le_self g a0
  have h2 := Int.ediv_le_self g b0
  rw [q1] at h1
  rw [q2] at h2
  constructor
  · split at h1 <;> split at h1 <;> omega
  · split at h2 <;> omega
theorem of_signs {n d g N D : Int} (L : Lowest n d g N D) : ∃ (sg fN : Bool) (N' : Int), (!(decide (n < 0) == decide (d < 0))) = sg ∧ fN = decide (N ≤ 9223372036854775807) ∧ (N' = if N ≤ 9223372036854775807 then N else 0) ∧
    ∀ w : World, Calls Tryd.prog 52 #[.int .u64 (if N < 0 then -N else N), .bool sg] w fun e w' => e = .returned (.tuple #[.int .i64 N', .bool fN]) ∧ w' = w := by
  obtain ⟨s1, s2, s3⟩ := L.sign
  obtain ⟨nle, _⟩ := L.Nle
  by_cases hN : N < 0
  · rw [if_pos hN] at nle
    refine ⟨true, true, N, s1 hN, by simp; omega, by rw [if_pos (by omega)], fun w => ?_⟩
    have := rsigned_neg (-N) (by omega) nle w
    rw [if_pos hN]
    simpa using this
  · rw [if_neg hN] at nle ⊢
    by_cases hz : N = 0
    · subst hz
      refine ⟨_, true, 0, rfl, by simp, by simp, fun w => ?_⟩
      cases (!(decide (n < 0) == decide (d < 0)))
      · exact rsigned_pos 0 (by omega) (by omega) w
      · have := rsigned_neg 0 (by omega) (by omega) w
        simpa using this
    · by_cases hx : N ≤ 9223372036854775807
      · exact ⟨false, true, N, s2 (by omega), by simp; omega, by rw [if_pos hx], fun w => rsigned_pos N (by omega) hx w⟩
      · exact ⟨false, false, 0, s2 (by omega), by simp; omega, by rw [if_neg hx], fun w => rsigned_no N (by omega) (by omega) w⟩
theorem of_any' {n d g N D : Int} (L : Lowest n d g N D) (er N'' D'' : Int)
    (hr : (N ≤ 9223372036854775807 ∧ D ≤ 9223372036854775807 ∧ er = 0 ∧ N'' = N ∧ D'' = D) ∨ (¬ (N ≤ 9223372036854775807 ∧ D ≤ 9223372036854775807) ∧ er = 2 ∧ N'' = 0 ∧ D'' = 0)) (w : World) :
    Calls Tryd.prog 21 #[.int .i64 n, .int .i64 d] w fun e w' => e = .returned (.tuple #[.agg #[.int .i64 N'', .int .i64 D''], .int .i64 er]) ∧ Below w.heap.size w w' := by
  obtain ⟨q1, q2⟩ := L.quo
  obtain ⟨nle, dle⟩ := L.Nle
  have g0 := L.gpos
  have D0 := L.Dpos
  have n0 := L.n0
  have n1 := L.n1
  have d0 := L.d0
  have d1 := L.d1
  have gle := L.gle
  obtain ⟨sg, fN, N', hs, hf, hN', cN⟩ := of_signs L
  have a0 : 0 ≤ (if N < 0 then -N else N) := by split <;> omega
  have c1 : 0 ≤ (if n < 0 then -n else n) ∧ (if n < 0 then -n else n) < 18446744073709551616 := by split <;> omega
  have c2 : 0 ≤ (if d < 0 then -d else d) ∧ (if d < 0 then -d else d) < 18446744073709551616 := by split <;> omega
  have hgg : ((Int.gcd (if n < 0 then -n else n) (if d < 0 then -d else d) : Nat) : Int) = g := by rw [gcd_abs, L.hg]
  by_cases hD : D ≤ 9223372036854775807
  · refine of_mid n d g N D _ _ _ D true sg n0 n1 d0 d1 L.dz (by simpa using L.dz) (Lib.hid rfl) (Lib.hid rfl) c1.1 c1.2 c2.1 c2.2 (Lib.hid hgg) g0 (by omega) q1 q2 a0 (by omega) (by omega) (by omega) hs fN true N' D cN (fun w => rsigned_pos D (by omega) hD w) er N'' D'' (Lib.hid ?_) w
    by_cases hN : N ≤ 9223372036854775807
    · rw [hf, decide_eq_true hN, hN', if_pos hN]
      rcases hr with h | h
      · exact ⟨h.2.2.1, h.2.2.2.1, h.2.2.2.2⟩
      · exact absurd ⟨hN, hD⟩ h.1
    · rw [hf, decide_eq_false hN, hN', if_neg hN]
      rcases hr with h | h
      · exact absurd h.1 hN
      · exact ⟨h.2.1, h.2.2.1, h.2.2.2⟩
  · refine of_mid n d g N D _ _ _ D true sg n0 n1 d0 d1 L.dz (by simpa using L.dz) (Lib.hid rfl) (Lib.hid rfl) c1.1 c1.2 c2.1 c2.2 (Lib.hid hgg) g0 (by omega) q1 q2 a0 (by omega) (by omega) (by omega) hs fN false N' 0 cN (fun w => rsigned_no D (by omega) (by omega) w) er N'' D'' (Lib.hid ?_) w
    rcases hr with h | h
    · exact absurd h.2.1 hD
    · rw [Bool.and_false]; exact ⟨h.2.1, h.2.2.1, h.2.2.2⟩
end Go.Proofs.YtjemnjboopabpaaDoor
