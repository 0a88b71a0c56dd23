/- Package wide: what each function returns, and that of memory only new blocks are laid. -/
import Derived.Test.YtmelbgabiklojaaRows
import Derived.Test.YtmelbgabiklojaaShelf
import Derived.Test.YtmelbgabiklojaaNum
import Derived.Test.YtmelbgabiklojaaDiv64
import Derived.Test.YtmelbgabiklojaaWideC
import Derived.Outline
import Derived.WalkKit
import Derived.WalkSpells
import Derived.WalkLawsBesides
import Derived.Handy
import Derived.Lib.Hide
import Derived.Deep.QuietTactic
import Derived.BigQuiet
import Derived.Deep.RegionHeld3
import Derived.Deep.RegionWith
import Derived.Shelf.Spec.BitsCarry
namespace Go.Proofs.Ytmelbgabiklojaa
open Go.RowKit
set_option linter.unusedVariables false
set_option linter.unusedSimpArgs false

/-- what the steps of a division hand on -/
structure DivSteps (a b d m uh ul qh ql R : Int) : Prop where
  a0 : -9223372036854775808 ≤ a
  a1 : a ≤ 9223372036854775807
  b0 : 0 ≤ b
  b1 : b < 18446744073709551616
  d0 : -9223372036854775808 ≤ d
  d1 : d ≤ 9223372036854775807
  dz : (d == 0) = false
  hm : m = if d < 0 then -d else d
  m0 : 0 < m
  m1 : m < 18446744073709551616
  u0 : -9223372036854775808 ≤ uh
  u1 : uh ≤ 9223372036854775807
  u2 : 0 ≤ ul
  u3 : ul < 18446744073709551616
  eu : a < 0 → (uh * 18446744073709551616 + ul + (a * 18446744073709551616 + b)) % 340282366920938463463374607431768211456 = 0
  eu' : ¬ a < 0 → uh = a ∧ ul = b
  q0 : -9223372036854775808 ≤ qh
  q1 : qh ≤ 9223372036854775807
  q2 : 0 ≤ ql
  q3 : ql < 18446744073709551616
  eq : (qh * 18446744073709551616 + ql - (IntKind.u64.wrap uh * 18446744073709551616 + ul) / m) % 340282366920938463463374607431768211456 = 0
  er : (IntKind.u64.wrap uh * 18446744073709551616 + ul) % m = R
  R0 : 0 ≤ R
  R1 : R ≤ 9223372036854775807
  R2 : R < m

set_option maxHeartbeats 1000000 in
theorem div_same_pp (a b d m uh ul qh ql R r : Int) (S : DivSteps a b d m uh ul qh ql R) (sa : ¬ a < 0) (sd : ¬ d < 0) (hq : decide (qh < 0) = false) (hr : r = if d < 0 then -R else R) (w : World) :
    Calls Try.prog 76 #[.agg #[.int .i64 a, .int .u64 b], .int .i64 d] w fun e w' => e = .returned (.tuple #[.agg #[.int .i64 qh, .int .u64 ql], .int .i64 r, .bool true]) ∧ Below w.heap.size w w' := by
    have dz := S.dz
    have dzz : ¬ d = 0 := by simpa using dz
    have H := Lib.hid hr
    have da : decide (a < 0) = false := by simp; omega
    have dd : decide (d < 0) = false := by simp; omega
    clear hr
    go_enter Try.func76, Try.ntmps76
    go_wp2_with fail
    refine (isize_any d m S.d0 S.d1 S.hm _).mono ?_
    rintro e w1 ⟨rfl, rfl⟩
    go_wp2_with fail
    refine (wsize_any a b uh ul S.a0 S.a1 S.b0 S.b1 S.u0 S.u1 S.u2 S.u3 S.eu S.eu' _).mono ?_
    rintro e w2 ⟨rfl, hb2⟩
    obtain ⟨hc2, hf2⟩ := bcell hb2
    have z2 := hb2.size
    simp only [World.size_alloc] at z2
    go_wp2_with fail
    refine (divide_any uh ul m qh ql R S.u0 S.u1 S.u2 S.u3 S.m0 S.m1 S.q0 S.q1 S.q2 S.q3 S.eq S.er _).mono ?_
    rintro e w3 ⟨rfl, hb3⟩
    obtain ⟨hc3, hf3⟩ := bcell hb3
    have z3 := hb3.size
    have ca : w3.cell? ⟨w.heap.size, 0, none⟩ = some (.int .i64 a) := by rw [hc3 _ _ (by omega), hc2 _ _ (by simp; omega)]; simp
    have cb : w3.cell? ⟨w.heap.size, 1, none⟩ = some (.int .u64 b) := by rw [hc3 _ _ (by omega), hc2 _ _ (by simp; omega)]; simp
    have cr0 : w3.cell? ⟨w.heap.size + 1, 0, none⟩ = some (.int .i64 0) := by rw [hc3 _ _ (by omega), hc2 _ _ (by simp)]; simp
    have cr1 : w3.cell? ⟨w.heap.size + 1, 1, none⟩ = some (.int .u64 0) := by rw [hc3 _ _ (by omega), hc2 _ _ (by simp)]; simp
    have fr0 : w3.frozen? ⟨w.heap.size + 1, 0, none⟩ = false := by rw [hf3 _ _ (by omega), hf2 _ _ (by simp)]; simp [go_sem]
    have fr1 : w3.frozen? ⟨w.heap.size + 1, 1, none⟩ = false := by rw [hf3 _ _ (by omega), hf2 _ _ (by simp)]; simp [go_sem]
    have n0 : w.heap.size < w3.heap.size := by omega
    have n1 : w.heap.size + 1 < w3.heap.size := by omega
    have y1 : w.heap.size + 1 < w3.heap.size + 1 := by omega
    have y2 : w.heap.size + 1 < w3.heap.size + 1 + 1 := by omega
    have y3 : w.heap.size + 1 < w3.heap.size + 1 + 1 + 1 := by omega
    have y4 : w.heap.size + 1 < w3.heap.size + 1 + 1 + 1 + 1 := by omega
    have y5 : w.heap.size + 1 < w3.heap.size + 1 + 1 + 1 + 1 + 1 := by omega
    have y6 : w.heap.size + 1 < w3.heap.size + 1 + 1 + 1 + 1 + 1 + 1 := by omega
    have y7 : w.heap.size + 1 < w3.heap.size + 1 + 1 + 1 + 1 + 1 + 1 + 1 := by omega
    have HB := Lib.hid (((((Below.refl w.heap.size w).alloc (Nat.le_refl _) _).alloc (by simp) _).trans (hb2.mono (by simp; omega))).trans (hb3.mono (by omega)))
    clear hc2 hf2 hc3 hf3 hb2 hb3
    go_wp2_with (first | (go_at_call 63; refine (neg_any _ _ _).mono ?_; rintro e w' ⟨rfl, rfl⟩))
    go_region_with (go_at_call 84; refine (signed_any R d r S.R0 S.R1 H.out _).mono ?_; rintro e w' ⟨rfl, rfl⟩)
    all_goals go_wp2
    all_goals (refine bodyPost_ret (v := .tuple #[.agg #[.int .i64 qh, .int .u64 ql], .int .i64 r, .bool true]) (by simp [results, Try.results76, go_sem, n1, y1, y2, y3, y4, y5, y6, y7, cr0, cr1]) rfl ?_)
    all_goals exact ⟨rfl, by have hb := HB.out; repeat' (first | exact hb | (with_reducible refine below_drewN ?_ _) | (with_reducible refine Below.drew ?_) | (with_reducible refine Below.alloc ?_ ?_ _) | (with_reducible refine Below.setCell ?_ ?_ _) | go_size)⟩
set_option maxHeartbeats 1000000 in
theorem div_same_nn (a b d m uh ul qh ql R r : Int) (S : DivSteps a b d m uh ul qh ql R) (sa : a < 0) (sd : d < 0) (hq : decide (qh < 0) = false) (hr : r = if d < 0 then -R else R) (w : World) :
    Calls Try.prog 76 #[.agg #[.int .i64 a, .int .u64 b], .int .i64 d] w fun e w' => e = .returned (.tuple #[.agg #[.int .i64 qh, .int .u64 ql], .int .i64 r, .bool true]) ∧ Below w.heap.size w w' := by
    have dz := S.dz
    have dzz : ¬ d = 0 := by simpa using dz
    have H := Lib.hid hr
    have da : decide (a < 0) = true := by simp; omega
    have dd : decide (d < 0) = true := by simp; omega
    clear hr
    go_enter Try.func76, Try.ntmps76
    go_wp2_with fail
    refine (isize_any d m S.d0 S.d1 S.hm _).mono ?_
    rintro e w1 ⟨rfl, rfl⟩
    go_wp2_with fail
    refine (wsize_any a b uh ul S.a0 S.a1 S.b0 S.b1 S.u0 S.u1 S.u2 S.u3 S.eu S.eu' _).mono ?_
    rintro e w2 ⟨rfl, hb2⟩
    obtain ⟨hc2, hf2⟩ := bcell hb2
    have z2 := hb2.size
    simp only [World.size_alloc] at z2
    go_wp2_with fail
    refine (divide_any uh ul m qh ql R S.u0 S.u1 S.u2 S.u3 S.m0 S.m1 S.q0 S.q1 S.q2 S.q3 S.eq S.er _).mono ?_
    rintro e w3 ⟨rfl, hb3⟩
    obtain ⟨hc3, hf3⟩ := bcell hb3
    have z3 := hb3.size
    have ca : w3.cell? ⟨w.heap.size, 0, none⟩ = some (.int .i64 a) := by rw [hc3 _ _ (by omega), hc2 _ _ (by simp; omega)]; simp
    have cb : w3.cell? ⟨w.heap.size, 1, none⟩ = some (.int .u64 b) := by rw [hc3 _ _ (by omega), hc2 _ _ (by simp; omega)]; simp
    have cr0 : w3.cell? ⟨w.heap.size + 1, 0, none⟩ = some (.int .i64 0) := by rw [hc3 _ _ (by omega), hc2 _ _ (by simp)]; simp
    have cr1 : w3.cell? ⟨w.heap.size + 1, 1, none⟩ = some (.int .u64 0) := by rw [hc3 _ _ (by omega), hc2 _ _ (by simp)]; simp
    have fr0 : w3.frozen? ⟨w.heap.size + 1, 0, none⟩ = false := by rw [hf3 _ _ (by omega), hf2 _ _ (by simp)]; simp [go_sem]
    have fr1 : w3.frozen? ⟨w.heap.size + 1, 1, none⟩ = false := by rw [hf3 _ _ (by omega), hf2 _ _ (by simp)]; simp [go_sem]
    have n0 : w.heap.size < w3.heap.size := by omega
    have n1 : w.heap.size + 1 < w3.heap.size := by omega
    have y1 : w.heap.size + 1 < w3.heap.size + 1 := by omega
    have y2 : w.heap.size + 1 < w3.heap.size + 1 + 1 := by omega
    have y3 : w.heap.size + 1 < w3.heap.size + 1 + 1 + 1 := by omega
    have y4 : w.heap.size + 1 < w3.heap.size + 1 + 1 + 1 + 1 := by omega
    have y5 : w.heap.size + 1 < w3.heap.size + 1 + 1 + 1 + 1 + 1 := by omega
    have y6 : w.heap.size + 1 < w3.heap.size + 1 + 1 + 1 + 1 + 1 + 1 := by omega
    have y7 : w.heap.size + 1 < w3.heap.size + 1 + 1 + 1 + 1 + 1 + 1 + 1 := by omega
    have HB := Lib.hid (((((Below.refl w.heap.size w).alloc (Nat.le_refl _) _).alloc (by simp) _).trans (hb2.mono (by simp; omega))).trans (hb3.mono (by omega)))
    clear hc2 hf2 hc3 hf3 hb2 hb3
    go_wp2_with (first | (go_at_call 63; refine (neg_any _ _ _).mono ?_; rintro e w' ⟨rfl, rfl⟩))
    go_region_with (go_at_call 84; refine (signed_any R d r S.R0 S.R1 H.out _).mono ?_; rintro e w' ⟨rfl, rfl⟩)
    all_goals go_wp2
    all_goals (refine bodyPost_ret (v := .tuple #[.agg #[.int .i64 qh, .int .u64 ql], .int .i64 r, .bool true]) (by simp [results, Try.results76, go_sem, n1, y1, y2, y3, y4, y5, y6, y7, cr0, cr1]) rfl ?_)
    all_goals exact ⟨rfl, by have hb := HB.out; repeat' (first | exact hb | (with_reducible refine below_drewN ?_ _) | (with_reducible refine Below.drew ?_) | (with_reducible refine Below.alloc ?_ ?_ _) | (with_reducible refine Below.setCell ?_ ?_ _) | go_size)⟩
set_option maxHeartbeats 1000000 in
theorem div_over_nn (a b d m uh ul qh ql R : Int) (S : DivSteps a b d m uh ul qh ql R) (sa : a < 0) (sd : d < 0) (hq : decide (qh < 0) = true) (w : World) :
    Calls Try.prog 76 #[.agg #[.int .i64 a, .int .u64 b], .int .i64 d] w fun e w' => e = .returned (.tuple #[.agg #[.int .i64 0, .int .u64 0], .int .i64 0, .bool false]) ∧ Below w.heap.size w w' := by
    have dz := S.dz
    have dzz : ¬ d = 0 := by simpa using dz
    have da : decide (a < 0) = true := by simp; omega
    have dd : decide (d < 0) = true := by simp; omega
    go_enter Try.func76, Try.ntmps76
    go_wp2_with fail
    refine (isize_any d m S.d0 S.d1 S.hm _).mono ?_
    rintro e w1 ⟨rfl, rfl⟩
    go_wp2_with fail
    refine (wsize_any a b uh ul S.a0 S.a1 S.b0 S.b1 S.u0 S.u1 S.u2 S.u3 S.eu S.eu' _).mono ?_
    rintro e w2 ⟨rfl, hb2⟩
    obtain ⟨hc2, hf2⟩ := bcell hb2
    have z2 := hb2.size
    simp only [World.size_alloc] at z2
    go_wp2_with fail
    refine (divide_any uh ul m qh ql R S.u0 S.u1 S.u2 S.u3 S.m0 S.m1 S.q0 S.q1 S.q2 S.q3 S.eq S.er _).mono ?_
    rintro e w3 ⟨rfl, hb3⟩
    obtain ⟨hc3, hf3⟩ := bcell hb3
    have z3 := hb3.size
    have ca : w3.cell? ⟨w.heap.size, 0, none⟩ = some (.int .i64 a) := by rw [hc3 _ _ (by omega), hc2 _ _ (by simp; omega)]; simp
    have cb : w3.cell? ⟨w.heap.size, 1, none⟩ = some (.int .u64 b) := by rw [hc3 _ _ (by omega), hc2 _ _ (by simp; omega)]; simp
    have cr0 : w3.cell? ⟨w.heap.size + 1, 0, none⟩ = some (.int .i64 0) := by rw [hc3 _ _ (by omega), hc2 _ _ (by simp)]; simp
    have cr1 : w3.cell? ⟨w.heap.size + 1, 1, none⟩ = some (.int .u64 0) := by rw [hc3 _ _ (by omega), hc2 _ _ (by simp)]; simp
    have fr0 : w3.frozen? ⟨w.heap.size + 1, 0, none⟩ = false := by rw [hf3 _ _ (by omega), hf2 _ _ (by simp)]; simp [go_sem]
    have fr1 : w3.frozen? ⟨w.heap.size + 1, 1, none⟩ = false := by rw [hf3 _ _ (by omega), hf2 _ _ (by simp)]; simp [go_sem]
    have n0 : w.heap.size < w3.heap.size := by omega
    have n1 : w.heap.size + 1 < w3.heap.size := by omega
    have y1 : w.heap.size + 1 < w3.heap.size + 1 := by omega
    have y2 : w.heap.size + 1 < w3.heap.size + 1 + 1 := by omega
    have y3 : w.heap.size + 1 < w3.heap.size + 1 + 1 + 1 := by omega
    have y4 : w.heap.size + 1 < w3.heap.size + 1 + 1 + 1 + 1 := by omega
    have y5 : w.heap.size + 1 < w3.heap.size + 1 + 1 + 1 + 1 + 1 := by omega
    have y6 : w.heap.size + 1 < w3.heap.size + 1 + 1 + 1 + 1 + 1 + 1 := by omega
    have y7 : w.heap.size + 1 < w3.heap.size + 1 + 1 + 1 + 1 + 1 + 1 + 1 := by omega
    have HB := Lib.hid (((((Below.refl w.heap.size w).alloc (Nat.le_refl _) _).alloc (by simp) _).trans (hb2.mono (by simp; omega))).trans (hb3.mono (by omega)))
    clear hc2 hf2 hc3 hf3 hb2 hb3
    go_wp2_with (first | (go_at_call 63; refine (neg_any _ _ _).mono ?_; rintro e w' ⟨rfl, rfl⟩))
    refine bodyPost_ret (v := .tuple #[.agg #[.int .i64 0, .int .u64 0], .int .i64 0, .bool false]) (by simp [results, Try.results76, go_sem, n1, y1, y2, y3, y4, y5, y6, y7, cr0, cr1]) rfl ?_
    exact ⟨rfl, by have hb := HB.out; repeat' (first | exact hb | (with_reducible refine below_drewN ?_ _) | (with_reducible refine Below.drew ?_) | (with_reducible refine Below.alloc ?_ ?_ _) | (with_reducible refine Below.setCell ?_ ?_ _) | go_size)⟩
set_option maxHeartbeats 1000000 in
theorem div_diff0_pn (a b d m uh ul qh ql R h l r : Int) (S : DivSteps a b d m uh ul qh ql R) (sa : ¬ a < 0) (sd : d < 0) (hR : R = 0) (p0 : -9223372036854775808 ≤ h) (p1 : h ≤ 9223372036854775807) (p2 : 0 ≤ l) (p3 : l < 18446744073709551616)
    (ho : Hid ((h * 18446744073709551616 + l + (qh * 18446744073709551616 + ql)) % 340282366920938463463374607431768211456 = 0)) (hr : r = 0) (w : World) :
    Calls Try.prog 76 #[.agg #[.int .i64 a, .int .u64 b], .int .i64 d] w fun e w' => e = .returned (.tuple #[.agg #[.int .i64 h, .int .u64 l], .int .i64 r, .bool true]) ∧ Below w.heap.size w w' := by
    subst hR; subst hr
    have dz := S.dz
    have dzz : ¬ d = 0 := by simpa using dz
    have H := Lib.hid (show (0 : Int) = if d < 0 then -0 else 0 from by simp)
    have da : decide (a < 0) = false := by simp; omega
    have dd : decide (d < 0) = true := by simp; omega
    go_enter Try.func76, Try.ntmps76
    go_wp2_with fail
    refine (isize_any d m S.d0 S.d1 S.hm _).mono ?_
    rintro e w1 ⟨rfl, rfl⟩
    go_wp2_with fail
    refine (wsize_any a b uh ul S.a0 S.a1 S.b0 S.b1 S.u0 S.u1 S.u2 S.u3 S.eu S.eu' _).mono ?_
    rintro e w2 ⟨rfl, hb2⟩
    obtain ⟨hc2, hf2⟩ := bcell hb2
    have z2 := hb2.size
    simp only [World.size_alloc] at z2
    go_wp2_with fail
    refine (divide_any uh ul m qh ql 0 S.u0 S.u1 S.u2 S.u3 S.m0 S.m1 S.q0 S.q1 S.q2 S.q3 S.eq S.er _).mono ?_
    rintro e w3 ⟨rfl, hb3⟩
    obtain ⟨hc3, hf3⟩ := bcell hb3
    have z3 := hb3.size
    have ca : w3.cell? ⟨w.heap.size, 0, none⟩ = some (.int .i64 a) := by rw [hc3 _ _ (by omega), hc2 _ _ (by simp; omega)]; simp
    have cb : w3.cell? ⟨w.heap.size, 1, none⟩ = some (.int .u64 b) := by rw [hc3 _ _ (by omega), hc2 _ _ (by simp; omega)]; simp
    have cr0 : w3.cell? ⟨w.heap.size + 1, 0, none⟩ = some (.int .i64 0) := by rw [hc3 _ _ (by omega), hc2 _ _ (by simp)]; simp
    have cr1 : w3.cell? ⟨w.heap.size + 1, 1, none⟩ = some (.int .u64 0) := by rw [hc3 _ _ (by omega), hc2 _ _ (by simp)]; simp
    have fr0 : w3.frozen? ⟨w.heap.size + 1, 0, none⟩ = false := by rw [hf3 _ _ (by omega), hf2 _ _ (by simp)]; simp [go_sem]
    have fr1 : w3.frozen? ⟨w.heap.size + 1, 1, none⟩ = false := by rw [hf3 _ _ (by omega), hf2 _ _ (by simp)]; simp [go_sem]
    have n0 : w.heap.size < w3.heap.size := by omega
    have n1 : w.heap.size + 1 < w3.heap.size := by omega
    have y1 : w.heap.size + 1 < w3.heap.size + 1 := by omega
    have y2 : w.heap.size + 1 < w3.heap.size + 1 + 1 := by omega
    have y3 : w.heap.size + 1 < w3.heap.size + 1 + 1 + 1 := by omega
    have y4 : w.heap.size + 1 < w3.heap.size + 1 + 1 + 1 + 1 := by omega
    have y5 : w.heap.size + 1 < w3.heap.size + 1 + 1 + 1 + 1 + 1 := by omega
    have y6 : w.heap.size + 1 < w3.heap.size + 1 + 1 + 1 + 1 + 1 + 1 := by omega
    have y7 : w.heap.size + 1 < w3.heap.size + 1 + 1 + 1 + 1 + 1 + 1 + 1 := by omega
    have HB := Lib.hid (((((Below.refl w.heap.size w).alloc (Nat.le_refl _) _).alloc (by simp) _).trans (hb2.mono (by simp; omega))).trans (hb3.mono (by omega)))
    clear hc2 hf2 hc3 hf3 hb2 hb3
    go_wp2_with (first | (go_at_call 63; refine (neg_any _ _ _).mono ?_; rintro e w' ⟨rfl, rfl⟩) | (go_at_call 61; refine (opp_any qh ql h l S.q0 S.q1 S.q2 S.q3 p0 p1 p2 p3 ho.out _).mono ?_; rintro e w' ⟨rfl, rfl⟩) | (go_at_call 84; refine (signed_any 0 d 0 (by decide) (by decide) H.out _).mono ?_; rintro e w' ⟨rfl, rfl⟩))
    all_goals (refine bodyPost_ret (v := .tuple #[.agg #[.int .i64 h, .int .u64 l], .int .i64 0, .bool true]) (by simp [results, Try.results76, go_sem, n1, y1, y2, y3, y4, y5, y6, y7, cr0, cr1]) rfl ?_)
    all_goals exact ⟨rfl, by have hb := HB.out; repeat' (first | exact hb | (with_reducible refine below_drewN ?_ _) | (with_reducible refine Below.drew ?_) | (with_reducible refine Below.alloc ?_ ?_ _) | (with_reducible refine Below.setCell ?_ ?_ _) | go_size)⟩
set_option maxHeartbeats 1000000 in
theorem div_diff1_pn (a b d m uh ul qh ql R nh nl h l r : Int) (S : DivSteps a b d m uh ul qh ql R) (sa : ¬ a < 0) (sd : d < 0) (hR : ¬ R = 0) (p0 : -9223372036854775808 ≤ h) (p1 : h ≤ 9223372036854775807) (p2 : 0 ≤ l) (p3 : l < 18446744073709551616)
    (n0 : -9223372036854775808 ≤ nh) (n1 : nh ≤ 9223372036854775807) (n2 : 0 ≤ nl) (n3 : nl < 18446744073709551616) (hn : Hid (nh * 18446744073709551616 + nl = qh * 18446744073709551616 + ql + 1))
    (ho : Hid ((h * 18446744073709551616 + l + (nh * 18446744073709551616 + nl)) % 340282366920938463463374607431768211456 = 0)) (hr : r = if d < 0 then -(m - R) else m - R) (w : World) :
    Calls Try.prog 76 #[.agg #[.int .i64 a, .int .u64 b], .int .i64 d] w fun e w' => e = .returned (.tuple #[.agg #[.int .i64 h, .int .u64 l], .int .i64 r, .bool true]) ∧ Below w.heap.size w w' := by
    have dz := S.dz
    have dzz : ¬ d = 0 := by simpa using dz
    have H := Lib.hid hr
    have rz : (R == 0) = false := by simpa using hR
    have da : decide (a < 0) = false := by simp; omega
    have dd : decide (d < 0) = true := by simp; omega
    have R0 := S.R0
    have R2 := S.R2
    have m1 := S.m1
    have hm := S.hm
    have d0 := S.d0
    have d1 := S.d1
    have mR0 : 0 ≤ m - R := by omega
    have mR1 : m - R ≤ 9223372036854775807 := by split at hm <;> omega
    clear hr hm
    go_enter Try.func76, Try.ntmps76
    go_wp2_with fail
    refine (isize_any d m S.d0 S.d1 S.hm _).mono ?_
    rintro e w1 ⟨rfl, rfl⟩
    go_wp2_with fail
    refine (wsize_any a b uh ul S.a0 S.a1 S.b0 S.b1 S.u0 S.u1 S.u2 S.u3 S.eu S.eu' _).mono ?_
    rintro e w2 ⟨rfl, hb2⟩
    obtain ⟨hc2, hf2⟩ := bcell hb2
    have z2 := hb2.size
    simp only [World.size_alloc] at z2
    go_wp2_with fail
    refine (divide_any uh ul m qh ql R S.u0 S.u1 S.u2 S.u3 S.m0 S.m1 S.q0 S.q1 S.q2 S.q3 S.eq S.er _).mono ?_
    rintro e w3 ⟨rfl, hb3⟩
    obtain ⟨hc3, hf3⟩ := bcell hb3
    have z3 := hb3.size
    have ca : w3.cell? ⟨w.heap.size, 0, none⟩ = some (.int .i64 a) := by rw [hc3 _ _ (by omega), hc2 _ _ (by simp; omega)]; simp
    have cb : w3.cell? ⟨w.heap.size, 1, none⟩ = some (.int .u64 b) := by rw [hc3 _ _ (by omega), hc2 _ _ (by simp; omega)]; simp
    have cr0 : w3.cell? ⟨w.heap.size + 1, 0, none⟩ = some (.int .i64 0) := by rw [hc3 _ _ (by omega), hc2 _ _ (by simp)]; simp
    have cr1 : w3.cell? ⟨w.heap.size + 1, 1, none⟩ = some (.int .u64 0) := by rw [hc3 _ _ (by omega), hc2 _ _ (by simp)]; simp
    have fr0 : w3.frozen? ⟨w.heap.size + 1, 0, none⟩ = false := by rw [hf3 _ _ (by omega), hf2 _ _ (by simp)]; simp [go_sem]
    have fr1 : w3.frozen? ⟨w.heap.size + 1, 1, none⟩ = false := by rw [hf3 _ _ (by omega), hf2 _ _ (by simp)]; simp [go_sem]
    have z0 : w.heap.size < w3.heap.size := by omega
    have z1 : w.heap.size + 1 < w3.heap.size := by omega
    have y1 : w.heap.size + 1 < w3.heap.size + 1 := by omega
    have y2 : w.heap.size + 1 < w3.heap.size + 1 + 1 := by omega
    have y3 : w.heap.size + 1 < w3.heap.size + 1 + 1 + 1 := by omega
    have y4 : w.heap.size + 1 < w3.heap.size + 1 + 1 + 1 + 1 := by omega
    have y5 : w.heap.size + 1 < w3.heap.size + 1 + 1 + 1 + 1 + 1 := by omega
    have y6 : w.heap.size + 1 < w3.heap.size + 1 + 1 + 1 + 1 + 1 + 1 := by omega
    have y7 : w.heap.size + 1 < w3.heap.size + 1 + 1 + 1 + 1 + 1 + 1 + 1 := by omega
    have HB := Lib.hid (((((Below.refl w.heap.size w).alloc (Nat.le_refl _) _).alloc (by simp) _).trans (hb2.mono (by simp; omega))).trans (hb3.mono (by omega)))
    clear hc2 hf2 hc3 hf3 hb2 hb3
    go_wp2_with (first | (go_at_call 63; refine (neg_any _ _ _).mono ?_; rintro e w' ⟨rfl, rfl⟩) | (go_at_call 85; refine (next_any qh ql nh nl S.q0 S.q1 S.q2 S.q3 n0 n1 n2 n3 hn.out _).mono ?_; rintro e w' ⟨rfl, rfl⟩) | (go_at_call 61; refine (opp_any nh nl h l n0 n1 n2 n3 p0 p1 p2 p3 ho.out _).mono ?_; rintro e w' ⟨rfl, rfl⟩) | (go_at_call 84; refine (signed_any (m - R) d r mR0 mR1 H.out _).mono ?_; rintro e w' ⟨rfl, rfl⟩))
    all_goals (refine bodyPost_ret (v := .tuple #[.agg #[.int .i64 h, .int .u64 l], .int .i64 r, .bool true]) (by simp [results, Try.results76, go_sem, z1, y1, y2, y3, y4, y5, y6, y7, cr0, cr1]) rfl ?_)
    all_goals exact ⟨rfl, by have hb := HB.out; repeat' (first | exact hb | (with_reducible refine below_drewN ?_ _) | (with_reducible refine Below.drew ?_) | (with_reducible refine Below.alloc ?_ ?_ _) | (with_reducible refine Below.setCell ?_ ?_ _) | go_size)⟩
set_option maxHeartbeats 1000000 in
theorem div_diff0_np (a b d m uh ul qh ql R h l r : Int) (S : DivSteps a b d m uh ul qh ql R) (sa : a < 0) (sd : ¬ d < 0) (hR : R = 0) (p0 : -9223372036854775808 ≤ h) (p1 : h ≤ 9223372036854775807) (p2 : 0 ≤ l) (p3 : l < 18446744073709551616)
    (ho : Hid ((h * 18446744073709551616 + l + (qh * 18446744073709551616 + ql)) % 340282366920938463463374607431768211456 = 0)) (hr : r = 0) (w : World) :
    Calls Try.prog 76 #[.agg #[.int .i64 a, .int .u64 b], .int .i64 d] w fun e w' => e = .returned (.tuple #[.agg #[.int .i64 h, .int .u64 l], .int .i64 r, .bool true]) ∧ Below w.heap.size w w' := by
    subst hR; subst hr
    have dz := S.dz
    have dzz : ¬ d = 0 := by simpa using dz
    have H := Lib.hid (show (0 : Int) = if d < 0 then -0 else 0 from by simp)
    have da : decide (a < 0) = true := by simp; omega
    have dd : decide (d < 0) = false := by simp; omega
    go_enter Try.func76, Try.ntmps76
    go_wp2_with fail
    refine (isize_any d m S.d0 S.d1 S.hm _).mono ?_
    rintro e w1 ⟨rfl, rfl⟩
    go_wp2_with fail
    refine (wsize_any a b uh ul S.a0 S.a1 S.b0 S.b1 S.u0 S.u1 S.u2 S.u3 S.eu S.eu' _).mono ?_
    rintro e w2 ⟨rfl, hb2⟩
    obtain ⟨hc2, hf2⟩ := bcell hb2
    have z2 := hb2.size
    simp only [World.size_alloc] at z2
    go_wp2_with fail
    refine (divide_any uh ul m qh ql 0 S.u0 S.u1 S.u2 S.u3 S.m0 S.m1 S.q0 S.q1 S.q2 S.q3 S.eq S.er _).mono ?_
    rintro e w3 ⟨rfl, hb3⟩
    obtain ⟨hc3, hf3⟩ := bcell hb3
    have z3 := hb3.size
    have ca : w3.cell? ⟨w.heap.size, 0, none⟩ = some (.int .i64 a) := by rw [hc3 _ _ (by omega), hc2 _ _ (by simp; omega)]; simp
    have cb : w3.cell? ⟨w.heap.size, 1, none⟩ = some (.int .u64 b) := by rw [hc3 _ _ (by omega), hc2 _ _ (by simp; omega)]; simp
    have cr0 : w3.cell? ⟨w.heap.size + 1, 0, none⟩ = some (.int .i64 0) := by rw [hc3 _ _ (by omega), hc2 _ _ (by simp)]; simp
    have cr1 : w3.cell? ⟨w.heap.size + 1, 1, none⟩ = some (.int .u64 0) := by rw [hc3 _ _ (by omega), hc2 _ _ (by simp)]; simp
    have fr0 : w3.frozen? ⟨w.heap.size + 1, 0, none⟩ = false := by rw [hf3 _ _ (by omega), hf2 _ _ (by simp)]; simp [go_sem]
    have fr1 : w3.frozen? ⟨w.heap.size + 1, 1, none⟩ = false := by rw [hf3 _ _ (by omega), hf2 _ _ (by simp)]; simp [go_sem]
    have n0 : w.heap.size < w3.heap.size := by omega
    have n1 : w.heap.size + 1 < w3.heap.size := by omega
    have y1 : w.heap.size + 1 < w3.heap.size + 1 := by omega
    have y2 : w.heap.size + 1 < w3.heap.size + 1 + 1 := by omega
    have y3 : w.heap.size + 1 < w3.heap.size + 1 + 1 + 1 := by omega
    have y4 : w.heap.size + 1 < w3.heap.size + 1 + 1 + 1 + 1 := by omega
    have y5 : w.heap.size + 1 < w3.heap.size + 1 + 1 + 1 + 1 + 1 := by omega
    have y6 : w.heap.size + 1 < w3.heap.size + 1 + 1 + 1 + 1 + 1 + 1 := by omega
    have y7 : w.heap.size + 1 < w3.heap.size + 1 + 1 + 1 + 1 + 1 + 1 + 1 := by omega
    have HB := Lib.hid (((((Below.refl w.heap.size w).alloc (Nat.le_refl _) _).alloc (by simp) _).trans (hb2.mono (by simp; omega))).trans (hb3.mono (by omega)))
    clear hc2 hf2 hc3 hf3 hb2 hb3
    go_wp2_with (first | (go_at_call 63; refine (neg_any _ _ _).mono ?_; rintro e w' ⟨rfl, rfl⟩) | (go_at_call 61; refine (opp_any qh ql h l S.q0 S.q1 S.q2 S.q3 p0 p1 p2 p3 ho.out _).mono ?_; rintro e w' ⟨rfl, rfl⟩) | (go_at_call 84; refine (signed_any 0 d 0 (by decide) (by decide) H.out _).mono ?_; rintro e w' ⟨rfl, rfl⟩))
    all_goals (refine bodyPost_ret (v := .tuple #[.agg #[.int .i64 h, .int .u64 l], .int .i64 0, .bool true]) (by simp [results, Try.results76, go_sem, n1, y1, y2, y3, y4, y5, y6, y7, cr0, cr1]) rfl ?_)
    all_goals exact ⟨rfl, by have hb := HB.out; repeat' (first | exact hb | (with_reducible refine below_drewN ?_ _) | (with_reducible refine Below.drew ?_) | (with_reducible refine Below.alloc ?_ ?_ _) | (with_reducible refine Below.setCell ?_ ?_ _) | go_size)⟩
set_option maxHeartbeats 1000000 in
theorem div_diff1_np (a b d m uh ul qh ql R nh nl h l r : Int) (S : DivSteps a b d m uh ul qh ql R) (sa : a < 0) (sd : ¬ d < 0) (hR : ¬ R = 0) (p0 : -9223372036854775808 ≤ h) (p1 : h ≤ 9223372036854775807) (p2 : 0 ≤ l) (p3 : l < 18446744073709551616)
    (n0 : -9223372036854775808 ≤ nh) (n1 : nh ≤ 9223372036854775807) (n2 : 0 ≤ nl) (n3 : nl < 18446744073709551616) (hn : Hid (nh * 18446744073709551616 + nl = qh * 18446744073709551616 + ql + 1))
    (ho : Hid ((h * 18446744073709551616 + l + (nh * 18446744073709551616 + nl)) % 340282366920938463463374607431768211456 = 0)) (hr : r = if d < 0 then -(m - R) else m - R) (w : World) :
    Calls Try.prog 76 #[.agg #[.int .i64 a, .int .u64 b], .int .i64 d] w fun e w' => e = .returned (.tuple #[.agg #[.int .i64 h, .int .u64 l], .int .i64 r, .bool true]) ∧ Below w.heap.size w w' := by
    have dz := S.dz
    have dzz : ¬ d = 0 := by simpa using dz
    have H := Lib.hid hr
    have rz : (R == 0) = false := by simpa using hR
    have da : decide (a < 0) = true := by simp; omega
    have dd : decide (d < 0) = false := by simp; omega
    have R0 := S.R0
    have R2 := S.R2
    have m1 := S.m1
    have hm := S.hm
    have d0 := S.d0
    have d1 := S.d1
    have mR0 : 0 ≤ m - R := by omega
    have mR1 : m - R ≤ 9223372036854775807 := by split at hm <;> omega
    clear hr hm
    go_enter Try.func76, Try.ntmps76
    go_wp2_with fail
    refine (isize_any d m S.d0 S.d1 S.hm _).mono ?_
    rintro e w1 ⟨rfl, rfl⟩
    go_wp2_with fail
    refine (wsize_any a b uh ul S.a0 S.a1 S.b0 S.b1 S.u0 S.u1 S.u2 S.u3 S.eu S.eu' _).mono ?_
    rintro e w2 ⟨rfl, hb2⟩
    obtain ⟨hc2, hf2⟩ := bcell hb2
    have z2 := hb2.size
    simp only [World.size_alloc] at z2
    go_wp2_with fail
    refine (divide_any uh ul m qh ql R S.u0 S.u1 S.u2 S.u3 S.m0 S.m1 S.q0 S.q1 S.q2 S.q3 S.eq S.er _).mono ?_
    rintro e w3 ⟨rfl, hb3⟩
    obtain ⟨hc3, hf3⟩ := bcell hb3
    have z3 := hb3.size
    have ca : w3.cell? ⟨w.heap.size, 0, none⟩ = some (.int .i64 a) := by rw [hc3 _ _ (by omega), hc2 _ _ (by simp; omega)]; simp
    have cb : w3.cell? ⟨w.heap.size, 1, none⟩ = some (.int .u64 b) := by rw [hc3 _ _ (by omega), hc2 _ _ (by simp; omega)]; simp
    have cr0 : w3.cell? ⟨w.heap.size + 1, 0, none⟩ = some (.int .i64 0) := by rw [hc3 _ _ (by omega), hc2 _ _ (by simp)]; simp
    have cr1 : w3.cell? ⟨w.heap.size + 1, 1, none⟩ = some (.int .u64 0) := by rw [hc3 _ _ (by omega), hc2 _ _ (by simp)]; simp
    have fr0 : w3.frozen? ⟨w.heap.size + 1, 0, none⟩ = false := by rw [hf3 _ _ (by omega), hf2 _ _ (by simp)]; simp [go_sem]
    have fr1 : w3.frozen? ⟨w.heap.size + 1, 1, none⟩ = false := by rw [hf3 _ _ (by omega), hf2 _ _ (by simp)]; simp [go_sem]
    have z0 : w.heap.size < w3.heap.size := by omega
    have z1 : w.heap.size + 1 < w3.heap.size := by omega
    have y1 : w.heap.size + 1 < w3.heap.size + 1 := by omega
    have y2 : w.heap.size + 1 < w3.heap.size + 1 + 1 := by omega
    have y3 : w.heap.size + 1 < w3.heap.size + 1 + 1 + 1 := by omega
    have y4 : w.heap.size + 1 < w3.heap.size + 1 + 1 + 1 + 1 := by omega
    have y5 : w.heap.size + 1 < w3.heap.size + 1 + 1 + 1 + 1 + 1 := by omega
    have y6 : w.heap.size + 1 < w3.heap.size + 1 + 1 + 1 + 1 + 1 + 1 := by omega
    have y7 : w.heap.size + 1 < w3.heap.size + 1 + 1 + 1 + 1 + 1 + 1 + 1 := by omega
    have HB := Lib.hid (((((Below.refl w.heap.size w).alloc (Nat.le_refl _) _).alloc (by simp) _).trans (hb2.mono (by simp; omega))).trans (hb3.mono (by omega)))
    clear hc2 hf2 hc3 hf3 hb2 hb3
    go_wp2_with (first | (go_at_call 63; refine (neg_any _ _ _).mono ?_; rintro e w' ⟨rfl, rfl⟩) | (go_at_call 85; refine (next_any qh ql nh nl S.q0 S.q1 S.q2 S.q3 n0 n1 n2 n3 hn.out _).mono ?_; rintro e w' ⟨rfl, rfl⟩) | (go_at_call 61; refine (opp_any nh nl h l n0 n1 n2 n3 p0 p1 p2 p3 ho.out _).mono ?_; rintro e w' ⟨rfl, rfl⟩) | (go_at_call 84; refine (signed_any (m - R) d r mR0 mR1 H.out _).mono ?_; rintro e w' ⟨rfl, rfl⟩))
    all_goals (refine bodyPost_ret (v := .tuple #[.agg #[.int .i64 h, .int .u64 l], .int .i64 r, .bool true]) (by simp [results, Try.results76, go_sem, z1, y1, y2, y3, y4, y5, y6, y7, cr0, cr1]) rfl ?_)
    all_goals exact ⟨rfl, by have hb := HB.out; repeat' (first | exact hb | (with_reducible refine below_drewN ?_ _) | (with_reducible refine Below.drew ?_) | (with_reducible refine Below.alloc ?_ ?_ _) | (with_reducible refine Below.setCell ?_ ?_ _) | go_size)⟩
end Go.Proofs.Ytmelbgabiklojaa
