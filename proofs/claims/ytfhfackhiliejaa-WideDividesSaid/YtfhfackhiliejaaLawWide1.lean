/- WideMulDivs, WideOrder: their walks, out of package wide's contracts. -/
import Derived.Test.YtfhfackhiliejaaWideE
import Derived.WalkKit
import Derived.WalkSpells
import Derived.WalkLawsBesides
import Derived.Handy
import Derived.Lib.Hide
import Derived.Deep.QuietTactic
import Derived.BigQuiet
import Derived.Deep.RegionHeld3
import Derived.Deep.RegionWith
import Derived.Outline
import Derived.Deep.DeepCutAuto
namespace Go.Proofs.Ytfhfackhiliejaa
open Go.RowKit
set_option linter.unusedVariables false
set_option linter.unusedSimpArgs false

theorem keep_alloc {w : World} {a : Addr} {v : Value} {o : Obj} (h : w.cell? a = some v) : (w.alloc o).cell? a = some v := by
  obtain ⟨b, i, x⟩ := a
  have hb := World.block_lt_of_cell? w _ h
  rw [← h]
  exact World.cell?_of_block (by simpa using Below.heap_alloc w o b hb)

theorem below_step {w w4 W w6 : World} (h1 : Below w.heap.size w w4) (h2 : Below w4.heap.size w4 W) (h3 : Below W.heap.size W w6) : Below w.heap.size w w6 :=
  h1.trans ((h2.mono h1.size).trans (h3.mono (Nat.le_trans h1.size h2.size)))

theorem speaks1_any (w : World) : Calls Try.prog 12 #[] w fun e w' => e = .returned (.bool true) ∧ Below w.heap.size w w' := by
  go_enter Try.func12, Try.ntmps12
  go_wp2_with fail
  refine (of_any (-7) (-1) 18446744073709551609 (by decide) (by decide) (by decide) (by decide) (by decide) _).mono ?_
  rintro e w1 ⟨rfl, rfl⟩
  go_wp2_with fail
  refine (div_ok (-1) 18446744073709551609 2 (-1) 18446744073709551612 1 (by decide) (by decide) (by decide) (by decide) (by decide) (by decide) (by decide) (by decide) (by decide) (by decide) (by decide) (by decide) (by decide) _).mono ?_
  rintro e w2 ⟨rfl, hb2⟩
  have HB2 := Lib.hid (((Below.refl w.heap.size w).alloc (Nat.le_refl _) _).trans (hb2.mono (by simp)))
  clear hb2
  go_wp2_with fail
  refine (int_ok (-1) 18446744073709551612 (-4) (by decide) (by decide) (by decide) (by decide) (by decide) (by decide) (by decide) _).mono ?_
  rintro e w3 ⟨rfl, hb3⟩
  have HB3 := Lib.hid ((HB2.out.alloc (by have := HB2.out.size; omega) _).trans (hb3.mono (by have := HB2.out.size; simp; omega)))
  clear hb3 HB2
  go_wp2_with fail
  refine (muldiv_ok 7 3 2 10 1 (by decide) (by decide) (by decide) (by decide) (by decide) (by decide) (by decide) (by decide) (by decide) (by decide) (by decide) _).mono ?_
  rintro e w4 ⟨rfl, hb4⟩
  have HB4 := Lib.hid (HB3.out.trans (hb4.mono (by have := HB3.out.size; omega)))
  clear hb4 HB3
  go_wp2_with fail
  refine (muldiv_no 4611686018427387904 6 2 13835058055282163712 0 (by decide) (by decide) (by decide) (by decide) (by decide) (by decide) (by decide) (by decide) (by decide) (by decide) _).mono ?_
  rintro e w5 ⟨rfl, hb5⟩
  have HB5 := Lib.hid (HB4.out.trans (hb5.mono (by have := HB4.out.size; omega)))
  clear hb5 HB4
  go_wp2
  go_returns
  exact ⟨rfl, HB5.out⟩

theorem floor_exists (x c : Int) (dz : c ≠ 0) : ∃ q r : Int, x = q * c + r ∧ ((0 ≤ r ∧ r < c) ∨ (c < r ∧ r ≤ 0)) := by
  by_cases h : 0 < c
  · exact ⟨x / c, x % c, by have := Int.mul_ediv_add_emod x c; rw [Int.mul_comm]; omega, .inl ⟨Int.emod_nonneg _ dz, Int.emod_lt_of_pos _ h⟩⟩
  · have := Int.mul_ediv_add_emod (-x) (-c)
    have p := Int.emod_nonneg (-x) (show -c ≠ 0 by omega)
    have q := Int.emod_lt_of_pos (-x) (show 0 < -c by omega)
    refine ⟨-x / -c, -(-x % -c), ?_, .inr (by omega)⟩
    rw [Int.neg_mul] at this
    rw [Int.mul_comm]
    omega

theorem law_muldivs_zero (a b : Int) (h0 : -9223372036854775808 ≤ a) (h1 : a ≤ 9223372036854775807) (g0 : -9223372036854775808 ≤ b) (g1 : b ≤ 9223372036854775807) (w : World) :
    Calls Try.prog 6 #[.int .i64 a, .int .i64 b, .int .i64 0] w fun e w' => e = .returned (.bool true) ∧ Below w.heap.size w w' := by
  obtain ⟨p0, p1⟩ := prod_range a b h0 h1 g0 g1
  obtain ⟨h, l, x0, x1, x2, x3, xe⟩ := hl (a * b) (by omega) (by omega)
  have XE := Lib.hid xe
  clear xe
  go_enter Try.func6, Try.ntmps6
  go_wp2_with fail
  refine (speaks1_any _).mono ?_
  rintro e w1 ⟨rfl, hb1⟩
  have HB1 := Lib.hid hb1
  clear hb1
  go_wp2_with fail
  refine (muldiv_zero a b h0 h1 g0 g1 _).mono ?_
  rintro e w2 ⟨rfl, hb2⟩
  have HB2 := Lib.hid (HB1.out.trans (hb2.mono (by have := HB1.out.size; omega)))
  clear hb2 HB1
  go_wp2_with fail
  refine (mul_any a b h l h0 h1 g0 g1 x0 x1 x2 x3 XE.out _).mono ?_
  rintro e w3 ⟨rfl, rfl⟩
  go_wp2_with fail
  refine (div_zero h l _).mono ?_
  rintro e w4 ⟨rfl, hb4⟩
  have HB4 := Lib.hid ((HB2.out.alloc (by have := HB2.out.size; omega) _).trans (hb4.mono (by have := HB2.out.size; simp; omega)))
  clear hb4 HB2
  go_wp2_with fail
  refine (int_ok 0 0 0 (by decide) (by decide) (by decide) (by decide) (by decide) (by decide) (by decide) _).mono ?_
  rintro e w5 ⟨rfl, hb5⟩
  have HB5 := Lib.hid ((HB4.out.alloc (by have := HB4.out.size; omega) _).trans (hb5.mono (by have := HB4.out.size; simp; omega)))
  clear hb5 HB4
  go_wp2
  go_returns
  exact ⟨rfl, HB5.out⟩
theorem law_muldivs_no (a b c q r : Int) (h0 : -9223372036854775808 ≤ a) (h1 : a ≤ 9223372036854775807) (g0 : -9223372036854775808 ≤ b) (g1 : b ≤ 9223372036854775807) (d0 : -9223372036854775808 ≤ c) (d1 : c ≤ 9223372036854775807) (dz : c ≠ 0)
    (q0 : q < -9223372036854775808 ∨ 9223372036854775807 < q) (e : a * b = q * c + r) (er : (0 ≤ r ∧ r < c) ∨ (c < r ∧ r ≤ 0)) (w : World) :
    Calls Try.prog 6 #[.int .i64 a, .int .i64 b, .int .i64 c] w fun e w' => e = .returned (.bool true) ∧ Below w.heap.size w w' := by
  obtain ⟨p0, p1⟩ := prod_range a b h0 h1 g0 g1
  obtain ⟨h, l, x0, x1, x2, x3, xe⟩ := hl (a * b) (by omega) (by omega)
  obtain ⟨r0, r1⟩ := quo_range p0 p1 dz e er
  obtain ⟨qh, ql, y0, y1, y2, y3, ye⟩ := hl q (by omega) (by omega)
  have XE := Lib.hid xe
  have E := Lib.hid e
  have YE := Lib.hid ye
  have ER := Lib.hid er
  have Q0 := Lib.hid q0
  clear xe e ye er q0
  have cz : (c == 0) = false := by rw [beq_eq_false_iff_ne]; exact dz
  go_enter Try.func6, Try.ntmps6
  go_wp2_with fail
  refine (speaks1_any _).mono ?_
  rintro e w1 ⟨rfl, hb1⟩
  have HB1 := Lib.hid hb1
  clear hb1
  go_wp2_with fail
  refine (muldiv_no a b c q r h0 h1 g0 g1 d0 d1 dz Q0.out E.out ER.out _).mono ?_
  rintro e w2 ⟨rfl, hb2⟩
  have HB2 := Lib.hid (HB1.out.trans (hb2.mono (by have := HB1.out.size; omega)))
  clear hb2 HB1
  go_wp2_with fail
  refine (mul_any a b h l h0 h1 g0 g1 x0 x1 x2 x3 XE.out _).mono ?_
  rintro e w3 ⟨rfl, rfl⟩
  go_wp2_with fail
  refine (div_ok h l c qh ql r x0 x1 x2 x3 d0 d1 dz y0 y1 y2 y3 (by have := XE.out; have := E.out; have := YE.out; rw [this]; omega) ER.out _).mono ?_
  rintro e w4 ⟨rfl, hb4⟩
  have HB4 := Lib.hid ((HB2.out.alloc (by have := HB2.out.size; omega) _).trans (hb4.mono (by have := HB2.out.size; simp; omega)))
  clear hb4 HB2
  go_wp2_with fail
  refine (int_no qh ql y0 y1 y2 y3 (by have := YE.out; have := Q0.out; omega) _).mono ?_
  rintro e w5 ⟨rfl, hb5⟩
  have HB5 := Lib.hid ((HB4.out.alloc (by have := HB4.out.size; omega) _).trans (hb5.mono (by have := HB4.out.size; simp; omega)))
  clear hb5 HB4
  go_wp2
  go_returns
  exact ⟨rfl, HB5.out⟩
set_option maxRecDepth 100000 in
set_option maxHeartbeats 2000000 in
theorem law_muldivs_ok (a b c q r : Int) (h0 : -9223372036854775808 ≤ a) (h1 : a ≤ 9223372036854775807) (g0 : -9223372036854775808 ≤ b) (g1 : b ≤ 9223372036854775807) (d0 : -9223372036854775808 ≤ c) (d1 : c ≤ 9223372036854775807) (dz : c ≠ 0)
    (q0 : -9223372036854775808 ≤ q) (q1 : q ≤ 9223372036854775807) (e : a * b = q * c + r) (er : (0 ≤ r ∧ r < c) ∨ (c < r ∧ r ≤ 0)) (w : World) :
    Calls Try.prog 6 #[.int .i64 a, .int .i64 b, .int .i64 c] w fun e w' => e = .returned (.bool true) ∧ Below w.heap.size w w' := by
  obtain ⟨p0, p1⟩ := prod_range a b h0 h1 g0 g1
  obtain ⟨h, l, x0, x1, x2, x3, xe⟩ := hl (a * b) (by omega) (by omega)
  obtain ⟨p2, p3⟩ := prod_range q c q0 q1 d0 d1
  obtain ⟨bh, bl, y0, y1, y2, y3, ye⟩ := hl (q * c) (by omega) (by omega)
  obtain ⟨nh, nl, z0, z1, z2, z3, ze⟩ := hl (-(q * c)) (by omega) (by omega)
  obtain ⟨rh, rl, v0, v1, v2, v3, ve⟩ := hl r (by omega) (by omega)
  have XE := Lib.hid xe
  have E := Lib.hid e
  have YE := Lib.hid ye
  have ER := Lib.hid er
  have ZE := Lib.hid ze
  have VE := Lib.hid ve
  have r0 : -9223372036854775808 ≤ r := by omega
  have r1 : r ≤ 9223372036854775807 := by omega
  have AM := Lib.hid (add_mid h l nh nl rh rl rh rl true x0 x1 x2 x3 z0 z1 z2 z3 v0 v1 v2 v3 (by omega) (fun _ => ⟨rfl, rfl, by omega⟩) (fun h => by cases h))
  clear xe e ye er ze ve
  go_enter Try.func6, Try.ntmps6
  go_wp2_with fail
  refine (speaks1_any _).mono ?_
  rintro e w1 ⟨rfl, hb1⟩
  have HB1 := Lib.hid hb1
  clear hb1
  go_wp2_with fail
  refine (muldiv_ok a b c q r h0 h1 g0 g1 d0 d1 dz q0 q1 E.out ER.out _).mono ?_
  rintro e w2 ⟨rfl, hb2⟩
  have HB2 := Lib.hid (HB1.out.trans (hb2.mono (by have := HB1.out.size; omega)))
  clear hb2 HB1
  go_wp2_with fail
  refine (mul_any q c bh bl q0 q1 d0 d1 y0 y1 y2 y3 YE.out _).mono ?_
  rintro e w3 ⟨rfl, rfl⟩
  go_wp2_with fail
  refine (wneg_ok bh bl nh nl y0 y1 y2 y3 z0 z1 z2 z3 (by have := YE.out; have := ZE.out; omega) _).mono ?_
  rintro e w4 ⟨rfl, hb4⟩
  have HB4 := Lib.hid ((HB2.out.alloc (by have := HB2.out.size; omega) _).trans (hb4.mono (by have := HB2.out.size; simp; omega)))
  clear hb4 HB2
  have z4 := HB4.out.size
  go_upto_region 9 with fail
  go_cut [16, 17] (fun s16 s17 wx => ∃ g : Nat, s16 = .pointer (some ⟨g, 0, none⟩) ∧ s17 = .bool true ∧ wx.cell? ⟨g, 0, none⟩ = some (.int .i64 rh) ∧ wx.cell? ⟨g, 1, none⟩ = some (.int .u64 rl) ∧ Hid (Below w.heap.size w wx))
  case first =>
    go_region_with (first
      | (go_at_call 13; refine (mul_any a b h l h0 h1 g0 g1 x0 x1 x2 x3 XE.out _).mono ?_; rintro e w' ⟨rfl, rfl⟩)
      | (go_at_call 21; refine (AM.out _).mono ?_; rintro e w6 ⟨rfl, hb6⟩; obtain ⟨hc6, hf6⟩ := bcell hb6; have HB6 := Lib.hid hb6; clear hb6))
    all_goals
      go_wp2_with fail
      go_meet
      have b6 : Below w.heap.size w w6 := below_step HB4.out (by go_grown) HB6.out
      have z6 := HB6.out.size
      simp only [World.size_alloc, World.size_drew] at z6
      refine ⟨_, rfl, rfl, ?_, ?_, Lib.hid ?_⟩
      · simp [go_sem, hc6]
      · simp [go_sem, hc6]
      · repeat' (first | exact b6 | (with_reducible refine Below.drew ?_) | (with_reducible refine Below.alloc ?_ ?_ _) | (with_reducible refine Below.setCell ?_ ?_ _) | go_size)
  case rest =>
    obtain ⟨g, rfl, rfl, k0, k1, HB6⟩ := hcut
    go_wp2_with fail
    refine (int_ok rh rl r v0 v1 v2 v3 r0 r1 VE.out _).mono ?_
    rintro e w7 ⟨rfl, hb7⟩
    have HB7 := Lib.hid (HB6.out.trans (hb7.mono HB6.out.size))
    clear hb7 k0 k1
    have er := ER.out
    by_cases cp : 0 < c
    · have t1 : 0 ≤ r := by omega
      have t2 : r < c := by omega
      clear er
      go_wp2
      go_returns
      exact ⟨rfl, HB7.out⟩
    · have t1 : r ≤ 0 := by omega
      have t2 : c < r := by omega
      clear er
      go_wp2
      go_returns
      exact ⟨rfl, HB7.out⟩
theorem law_muldivs (a b c : Int) (h0 : -9223372036854775808 ≤ a) (h1 : a ≤ 9223372036854775807) (g0 : -9223372036854775808 ≤ b) (g1 : b ≤ 9223372036854775807) (d0 : -9223372036854775808 ≤ c) (d1 : c ≤ 9223372036854775807) (w : World) :
    Calls Try.prog 6 #[.int .i64 a, .int .i64 b, .int .i64 c] w fun e w' => e = .returned (.bool true) ∧ Below w.heap.size w w' := by
  by_cases dz : c = 0
  · subst dz; exact law_muldivs_zero a b h0 h1 g0 g1 w
  · obtain ⟨q, r, e, er⟩ := floor_exists (a * b) c dz
    by_cases hq : -9223372036854775808 ≤ q ∧ q ≤ 9223372036854775807
    · exact law_muldivs_ok a b c q r h0 h1 g0 g1 d0 d1 dz hq.1 hq.2 e er w
    · exact law_muldivs_no a b c q r h0 h1 g0 g1 d0 d1 dz (by omega) e er w
end Go.Proofs.Ytfhfackhiliejaa
