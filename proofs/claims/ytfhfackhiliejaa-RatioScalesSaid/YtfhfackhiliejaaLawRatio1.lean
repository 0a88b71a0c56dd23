/- RatioScales: its walk, out of the contracts of packages wide and ratio. -/
import Derived.Test.YtfhfackhiliejaaRatioC
import Derived.WalkKit
import Derived.WalkSpells
import Derived.WalkLawsBesides
import Derived.Handy
import Derived.Lib.Hide
import Derived.Deep.QuietTactic
import Derived.BigQuiet
import Derived.LoopTactic
import Derived.Deep.RegionHeld3
import Derived.Deep.RegionWith
import Derived.Outline
import Derived.Deep.DeepCutAuto
namespace Go.Proofs.Ytfhfackhiliejaa
open Go.RowKit
set_option linter.unusedVariables false
set_option linter.unusedSimpArgs false



theorem Lowest.good {n d g N D : Int} (L : Lowest n d g N D) : goodB N D = true := by
  have g0 := L.gpos
  have D0 := L.Dpos
  have e1 := L.eN
  have e2 := L.eD
  have hg := L.hg
  have k : Int.gcd (N * g) (D * g) = Int.gcd n d := by
    rw [e1, e2]
    split <;> simp
  rw [Int.gcd_mul_right] at k
  have k2 : Int.gcd N D * g.natAbs = 1 * g.natAbs := by omega
  have k3 : Int.gcd N D = 1 := Nat.eq_of_mul_eq_mul_right (by omega) k2
  unfold goodB
  rw [decide_eq_true D0, k3]
  rfl
theorem speaks2_any (w : World) : Calls Try.prog 31 #[] w fun e w' => e = .returned (.bool true) ∧ Below w.heap.size w w' := by
  have L : Lowest 6 (-4) 2 (-3) 2 := ⟨by decide, by decide, by decide, by decide, by decide, by decide, by decide, by decide⟩
  go_enter Try.func31, Try.ntmps31
  go_wp2_with fail
  refine (of_any' L 0 (-3) 2 (by decide) _).mono ?_
  rintro e w1 ⟨rfl, hb1⟩
  have HB1 := Lib.hid (hb1.alloc hb1.size (.cells #[.int .i64 (-3), .int .i64 2] 57))
  clear hb1
  go_wp2_with fail
  refine (down_ok (-3) 2 3 (-5) 1 (by decide) (by decide) (by decide) (by decide) (by decide) (by decide) (by decide) (Lib.hid (by decide)) (by decide) (by decide) (by decide) (by decide) _).mono ?_
  rintro e w2 ⟨rfl, hb2⟩
  have c0 : w2.cell? ⟨w1.heap.size, 0, none⟩ = some (.int .i64 (-3)) := cell_later hb2 (by simp [go_sem])
  have c1 : w2.cell? ⟨w1.heap.size, 1, none⟩ = some (.int .i64 2) := cell_later hb2 (by simp [go_sem])
  have HB2 := Lib.hid (HB1.out.trans (hb2.mono HB1.out.size))
  clear hb2
  go_wp2_with fail
  refine (half_any (-3) 2 3 (-5) 1 (-4) (-4) 0 (by decide) (by decide) (by decide) (by decide) (by decide) (by decide) (by decide) (by decide) (by decide) (by decide) (by decide) (by decide) _).mono ?_
  rintro e w3 ⟨rfl, hb3⟩
  have c2 : w3.cell? ⟨w1.heap.size, 0, none⟩ = some (.int .i64 (-3)) := cell_later hb3 c0
  have c3 : w3.cell? ⟨w1.heap.size, 1, none⟩ = some (.int .i64 2) := cell_later hb3 c1
  have HB3 := Lib.hid (HB2.out.trans (hb3.mono HB2.out.size))
  clear hb3 c0 c1
  go_wp2_with fail
  refine (of_zero 1 _).mono ?_
  rintro e w4 ⟨rfl, hb4⟩
  have c4 : w4.cell? ⟨w1.heap.size, 0, none⟩ = some (.int .i64 (-3)) := cell_later hb4 c2
  have c5 : w4.cell? ⟨w1.heap.size, 1, none⟩ = some (.int .i64 2) := cell_later hb4 c3
  have n4 := World.block_lt_of_cell? w4 _ c4
  simp only at n4
  have HB4 := Lib.hid ((HB3.out.trans (hb4.mono HB3.out.size)).alloc (Nat.le_trans HB3.out.size hb4.size) (.cells #[.int .i64 0, .int .i64 0] 57))
  clear hb4 c2 c3
  go_wp2_with fail
  refine (good_any (-3) 2 (by decide) (by decide) (by decide) (by decide) _).mono ?_
  rintro e w5 ⟨rfl, hb5⟩
  have HB5 := Lib.hid (HB4.out.trans (hb5.mono HB4.out.size))
  have hg : goodB (-3) 2 = true := by decide
  clear hb5
  go_wp2_with fail
  go_returns
  exact ⟨rfl, HB5.out⟩
theorem scale_mono {x y N D a b r1 r2 : Int} (N0 : 1 ≤ N) (D0 : 1 ≤ D) (e1 : x * N = a * D + r1) (p0 : 0 ≤ r1) (p1 : r1 < D) (e2 : y * N = b * D + r2) (q0 : 0 ≤ r2) (q1 : r2 < D) (h : x ≤ y) : a ≤ b := by
  have k : x * N ≤ y * N := Int.mul_le_mul_of_nonneg_right h (by omega)
  by_cases c : a ≤ b
  · exact c
  · have : (b + 1) * D ≤ a * D := Int.mul_le_mul_of_nonneg_right (by omega) (by omega)
    rw [Int.add_mul] at this
    omega
theorem mul_bd {x N M K : Int} (x0 : -M ≤ x) (x1 : x ≤ M) (N0 : 0 ≤ N) (N1 : N ≤ K) (M0 : 0 ≤ M) : -(M * K) ≤ x * N ∧ x * N ≤ M * K := by
  have h1 : x * N ≤ M * N := Int.mul_le_mul_of_nonneg_right x1 N0
  have h2 : -M * N ≤ x * N := Int.mul_le_mul_of_nonneg_right x0 N0
  have h3 : M * N ≤ M * K := Int.mul_le_mul_of_nonneg_left N1 M0
  rw [Int.neg_mul] at h2
  omega
set_option maxRecDepth 100000 in
set_option maxHeartbeats 1000000 in
theorem scales_mid (zn zd zx zy x y n d g N D a b r1 r2 c : Int) (w : World) (zn0 : 0 ≤ zn) (zn1 : zn ≤ 65535) (zd0 : 0 ≤ zd) (zd1 : zd ≤ 65535) (zx0 : -9223372036854775808 ≤ zx) (zx1 : zx ≤ 9223372036854775807) (zy0 : -9223372036854775808 ≤ zy) (zy1 : zy ≤ 9223372036854775807)
    (hx : zx / 262144 = x) (hy : zy / 262144 = y) (hn : 1 + zn % 4096 = n) (hd : 1 + zd % 4096 = d)
    (OF : Hid (∀ w : World, Calls Try.prog 32 #[.int .i64 n, .int .i64 d] w fun e w' => e = .returned (.tuple #[.agg #[.int .i64 N, .int .i64 D], .int .i64 0]) ∧ Below w.heap.size w w'))
    (DX : Hid (∀ w : World, Calls Try.prog 39 #[.agg #[.int .i64 N, .int .i64 D], .int .i64 x] w fun e w' => e = .returned (.tuple #[.int .i64 a, .int .i64 0]) ∧ Below w.heap.size w w'))
    (DY : Hid (∀ w : World, Calls Try.prog 39 #[.agg #[.int .i64 N, .int .i64 D], .int .i64 y] w fun e w' => e = .returned (.tuple #[.int .i64 b, .int .i64 0]) ∧ Below w.heap.size w w'))
    (HX : Hid (∀ w : World, Calls Try.prog 40 #[.agg #[.int .i64 N, .int .i64 D], .int .i64 x] w fun e w' => e = .returned (.tuple #[.int .i64 c, .int .i64 0]) ∧ Below w.heap.size w w'))
    (x0 : -35184372088832 ≤ x) (x1 : x ≤ 35184372088832) (N0 : 1 ≤ N) (N1 : N ≤ 4096) (D0 : 1 ≤ D) (D1 : D ≤ 4096)
    (ad : -144115188075860000 ≤ a * D ∧ a * D ≤ 144115188075860000) (cd : -144115188075860000 ≤ c * D ∧ c * D ≤ 144115188075860000) (xn : -144115188075855872 ≤ x * N ∧ x * N ≤ 144115188075855872)
    (re : x * N - a * D = r1) (r10 : 0 ≤ r1) (r11 : r1 < D) (ce : x * N - c * D = r2) (c0 : -D ≤ 2 * r2) (c1 : 2 * r2 < D) (one : Hid (N = D → a = x ∧ c = x))
    (mono : (x < y ∧ a ≤ b) ∨ (x = y ∧ a = b) ∨ (y < x ∧ b ≤ a)) :
    Calls Try.prog 11 #[.agg #[.int .u16 zn, .int .u16 zd, .int .i64 zx, .int .i64 zy]] w fun e w' => e = .returned (.bool true) ∧ Below w.heap.size w w' := by
  obtain ⟨ad0, ad1⟩ := ad
  obtain ⟨cd0, cd1⟩ := cd
  obtain ⟨xn0, xn1⟩ := xn
  have MO := Lib.hid mono
  clear mono
  go_enter Try.func11, Try.ntmps11
  go_wp2_with fail
  refine (speaks2_any _).mono ?_
  rintro e w1 ⟨rfl, hb1⟩
  have k0 : w1.cell? ⟨w.heap.size, 0, none⟩ = some (.int .u16 zn) := cell_later hb1 (by simp [go_sem])
  have k1 : w1.cell? ⟨w.heap.size, 1, none⟩ = some (.int .u16 zd) := cell_later hb1 (by simp [go_sem])
  have k2 : w1.cell? ⟨w.heap.size, 2, none⟩ = some (.int .i64 zx) := cell_later hb1 (by simp [go_sem])
  have k3 : w1.cell? ⟨w.heap.size, 3, none⟩ = some (.int .i64 zy) := cell_later hb1 (by simp [go_sem])
  have HB1 := Lib.hid (((Below.refl w.heap.size w).alloc (Nat.le_refl _) _).trans (hb1.mono (by simp)))
  clear hb1
  go_wp2_with fail
  go_quiet (fail)
  go_wp2_with fail
  refine (OF.out _).mono ?_
  rintro e w2 ⟨rfl, hb2⟩
  have HB2 := Lib.hid ((below_step HB1.out (below_drewN (Below.refl _ _) _) hb2).alloc (Nat.le_trans HB1.out.size hb2.size) (.cells #[.int .i64 N, .int .i64 D] 57))
  clear hb2 k0 k1 k2 k3
  go_wp2_with fail
  refine (DX.out _).mono ?_
  rintro e w3 ⟨rfl, hb3⟩
  have k0 : w3.cell? ⟨w2.heap.size, 0, none⟩ = some (.int .i64 N) := cell_later hb3 (by simp [go_sem])
  have k1 : w3.cell? ⟨w2.heap.size, 1, none⟩ = some (.int .i64 D) := cell_later hb3 (by simp [go_sem])
  have HB3 := Lib.hid (HB2.out.trans (hb3.mono HB2.out.size))
  clear hb3
  go_wp2_with fail
  refine (DY.out _).mono ?_
  rintro e w4 ⟨rfl, hb4⟩
  have k2 : w4.cell? ⟨w2.heap.size, 0, none⟩ = some (.int .i64 N) := cell_later hb4 k0
  have k3 : w4.cell? ⟨w2.heap.size, 1, none⟩ = some (.int .i64 D) := cell_later hb4 k1
  have HB4 := Lib.hid (HB3.out.trans (hb4.mono HB3.out.size))
  clear hb4 k0 k1
  go_wp2_with fail
  refine (HX.out _).mono ?_
  rintro e w5 ⟨rfl, hb5⟩
  have k0 : w5.cell? ⟨w2.heap.size, 0, none⟩ = some (.int .i64 N) := cell_later hb5 k2
  have k1 : w5.cell? ⟨w2.heap.size, 1, none⟩ = some (.int .i64 D) := cell_later hb5 k3
  have HB5 := Lib.hid (HB4.out.trans (hb5.mono HB4.out.size))
  clear hb5 k2 k3
  clear hx hy hn hd
  go_upto_region 8 with fail
  go_cut [88] (fun s wx => s = .bool false ∧ Hid (wx = w5))
  case first =>
    rcases MO.out with ⟨m1, m2⟩ | ⟨m1, m2⟩ | ⟨m1, m2⟩
    · go_wp2_with fail
      go_meet
      exact ⟨by first | rfl | (simp; omega), Lib.hid rfl⟩
    · subst m1; subst m2
      go_wp2_with fail
      go_meet
      exact ⟨by first | rfl | (simp; omega), Lib.hid rfl⟩
    · go_wp2_with fail
      go_meet
      exact ⟨by first | rfl | (simp; omega), Lib.hid rfl⟩
  case rest =>
    obtain ⟨rfl, hw⟩ := hcut
    obtain rfl := hw.out
    by_cases nd : N = D
    · obtain ⟨rfl, rfl⟩ := one.out nd
      subst nd
      go_wp2_with fail
      go_returns
      exact ⟨rfl, HB5.out⟩
    · have ndb : (N == D) = false := by simpa using nd
      go_wp2_with fail
      go_returns
      exact ⟨rfl, HB5.out⟩

theorem law_scales (zn zd zx zy : Int) (zn0 : 0 ≤ zn) (zn1 : zn ≤ 65535) (zd0 : 0 ≤ zd) (zd1 : zd ≤ 65535) (zx0 : -9223372036854775808 ≤ zx) (zx1 : zx ≤ 9223372036854775807) (zy0 : -9223372036854775808 ≤ zy) (zy1 : zy ≤ 9223372036854775807) (w : World) :
    Calls Try.prog 11 #[.agg #[.int .u16 zn, .int .u16 zd, .int .i64 zx, .int .i64 zy]] w fun e w' => e = .returned (.bool true) ∧ Below w.heap.size w w' := by
  obtain ⟨n, hn⟩ : ∃ n, 1 + zn % 4096 = n := ⟨_, rfl⟩
  obtain ⟨d, hd⟩ : ∃ d, 1 + zd % 4096 = d := ⟨_, rfl⟩
  obtain ⟨x, hx⟩ : ∃ x, zx / 262144 = x := ⟨_, rfl⟩
  obtain ⟨y, hy⟩ : ∃ y, zy / 262144 = y := ⟨_, rfl⟩
  have x0 : -35184372088832 ≤ x := by omega
  have x1 : x ≤ 35184372088832 := by omega
  have y0 : -35184372088832 ≤ y := by omega
  have y1 : y ≤ 35184372088832 := by omega
  obtain ⟨g, N, D, L⟩ := lowest_ex n d (by omega) (by omega) (by omega) (by omega) (by omega)
  have D0 := L.Dpos
  have g0 := L.gpos
  obtain ⟨q1, q2⟩ := L.quo
  have eN := L.eN
  rw [if_neg (show ¬ d < 0 by omega)] at eN q2
  rw [if_neg (show ¬ n < 0 by omega)] at q1
  have D1 : D ≤ 4096 := by have := Int.ediv_le_self g (show 0 ≤ d by omega); omega
  have Nn : (if N < 0 then -N else N) ≤ 4096 := by have := Int.ediv_le_self g (show 0 ≤ n by omega); omega
  have N0 : 1 ≤ N := by
    by_cases h : 1 ≤ N
    · exact h
    · have : N * g ≤ 0 * g := Int.mul_le_mul_of_nonneg_right (by omega) (by omega)
      omega
  have N1 : N ≤ 4096 := by rw [if_neg (show ¬ N < 0 by omega)] at Nn; exact Nn
  have hg := L.good
  obtain ⟨a, ha⟩ : ∃ a, a = x * N / D := ⟨_, rfl⟩
  obtain ⟨r1, hr1⟩ : ∃ r1, r1 = x * N % D := ⟨_, rfl⟩
  obtain ⟨b, hb⟩ : ∃ b, b = y * N / D := ⟨_, rfl⟩
  obtain ⟨r2, hr2⟩ : ∃ r2, r2 = y * N % D := ⟨_, rfl⟩
  have e1 : x * N = a * D + r1 := by rw [ha, hr1, Int.mul_comm (x * N / D)]; exact (Int.mul_ediv_add_emod _ _).symm
  have e2 : y * N = b * D + r2 := by rw [hb, hr2, Int.mul_comm (y * N / D)]; exact (Int.mul_ediv_add_emod _ _).symm
  have p0 : 0 ≤ r1 := by rw [hr1]; exact Int.emod_nonneg _ (by omega)
  have p1 : r1 < D := by rw [hr1]; exact Int.emod_lt_of_pos _ (by omega)
  have s0 : 0 ≤ r2 := by rw [hr2]; exact Int.emod_nonneg _ (by omega)
  have s1 : r2 < D := by rw [hr2]; exact Int.emod_lt_of_pos _ (by omega)
  have xn := mul_bd (N := N) (K := 4096) x0 x1 (by omega) N1 (by decide)
  have yn := mul_bd (N := N) (K := 4096) y0 y1 (by omega) N1 (by decide)
  have abd : ∀ z q r : Int, z = q * D + r → 0 ≤ r → r < D → -144115188075855872 ≤ z → z ≤ 144115188075855872 → -144115188075859972 ≤ q ∧ q ≤ 144115188075855872 := by
    intro z q r e r0 r1' z0 z1
    by_cases h : 0 ≤ q
    · have : q * 1 ≤ q * D := Int.mul_le_mul_of_nonneg_left D0 h
      omega
    · have k : -q * 1 ≤ -q * D := Int.mul_le_mul_of_nonneg_left D0 (by omega)
      rw [Int.neg_mul, Int.neg_mul] at k
      omega
  have ab := abd (x * N) a r1 e1 p0 p1 (by omega) (by omega)
  have bb := abd (y * N) b r2 e2 s0 s1 (by omega) (by omega)
  obtain ⟨c, hc⟩ : ∃ c, c = if D - r1 ≤ r1 then a + 1 else a := ⟨_, rfl⟩
  have cD : c * D = a * D ∨ c * D = a * D + D := by
    rw [hc]; split
    · right; rw [Int.add_mul]; omega
    · left; rfl
  have mono : (x < y ∧ a ≤ b) ∨ (x = y ∧ a = b) ∨ (y < x ∧ b ≤ a) := by
    rcases Int.lt_trichotomy x y with h | h | h
    · exact .inl ⟨h, scale_mono N0 D0 e1 p0 p1 e2 s0 s1 (by omega)⟩
    · exact .inr (.inl ⟨h, by rw [ha, hb, h]⟩)
    · exact .inr (.inr ⟨h, scale_mono N0 D0 e2 s0 s1 e1 p0 p1 (by omega)⟩)
  refine scales_mid zn zd zx zy x y n d g N D a b r1 (x * N - c * D) c w zn0 zn1 zd0 zd1 zx0 zx1 zy0 zy1 hx hy hn hd
    (Lib.hid fun w => of_any' L 0 N D (.inl ⟨by omega, by omega, rfl, rfl, rfl⟩) w)
    (Lib.hid fun w => down_ok N D x a r1 (by omega) (by omega) D0 (by omega) (by omega) (by omega) hg (Lib.hid e1) p0 p1 (by omega) (by omega) w)
    (Lib.hid fun w => down_ok N D y b r2 (by omega) (by omega) D0 (by omega) (by omega) (by omega) hg (Lib.hid e2) s0 s1 (by omega) (by omega) w)
    (Lib.hid fun w => half_any N D x a r1 c c 0 (by omega) (by omega) D0 (by omega) (by omega) (by omega) hg e1 p0 p1 hc (.inl ⟨by rw [hc]; split <;> omega, by rw [hc]; split <;> omega, rfl, rfl⟩) w)
    x0 x1 N0 N1 D0 D1 (by omega) (by omega) (by omega) (by omega) p0 p1 rfl ?_ ?_ (Lib.hid ?_) mono
  · rw [hc]; split
    · rw [Int.add_mul]; omega
    · omega
  · rw [hc]; split
    · rw [Int.add_mul]; omega
    · omega
  · intro nd
    have h1 : N = 1 := by
      have := hg
      unfold goodB at this
      rw [nd] at this
      simp at this
      omega
    obtain rfl := h1
    obtain rfl := nd
    have : a = x := by omega
    refine ⟨this, ?_⟩
    rw [hc, if_neg (by omega)]; exact this
end Go.Proofs.Ytfhfackhiliejaa
