/- Package wide: what each function returns, and that of memory only new blocks are laid. -/
import Derived.Test.YtmelbgabiklojaaRows
import Derived.Test.YtmelbgabiklojaaShelf
import Derived.Test.YtmelbgabiklojaaNum
import Derived.Test.YtmelbgabiklojaaDiv64
import Derived.Test.YtmelbgabiklojaaWide
import Derived.WalkKit
import Derived.WalkSpells
import Derived.WalkLawsBesides
import Derived.Handy
import Derived.Lib.Hide
import Derived.Deep.QuietTactic
import Derived.BigQuiet
import Derived.Deep.RegionHeld3
import Derived.Deep.RegionWith
import Derived.Shelf.Spec.BitsCarry
namespace Go.Proofs.Ytmelbgabiklojaa
open Go.RowKit
set_option linter.unusedVariables false

def cmpI (x y : Int) : Int := if x = y then 0 else if x < y then -1 else 1
theorem int_ok (a b n : Int) (h0 : -9223372036854775808 ≤ a) (h1 : a ≤ 9223372036854775807) (h2 : 0 ≤ b) (h3 : b < 18446744073709551616)
    (n0 : -9223372036854775808 ≤ n) (n1 : n ≤ 9223372036854775807) (e : a * 18446744073709551616 + b = n) (w : World) :
    Calls Try.prog 54 #[.agg #[.int .i64 a, .int .u64 b]] w fun e w' => e = .returned (.tuple #[.int .i64 n, .bool true]) ∧ Below w.heap.size w w' := by
  have f1 : wrap64 b = n := by simp only [wrap64]; omega
  have H := Lib.hid e
  clear e
  go_enter Try.func54, Try.ntmps54
  go_wp2
  go_region_held3 (fun w' => w'.cell? ⟨w.heap.size, 0, none⟩ = some (.int .i64 a) ∧ w'.cell? ⟨w.heap.size, 1, none⟩ = some (.int .u64 b)) (simp [go_sem, World.cell?_alloc_past]) (first
    | (go_at_call 50; refine (of_any n a b n0 n1 h2 h3 H.out _).mono ?_; rintro e w' ⟨rfl, rfl⟩))
  go_wp2
  go_returns
  exact ⟨rfl, by go_grown⟩
theorem int_no (a b : Int) (h0 : -9223372036854775808 ≤ a) (h1 : a ≤ 9223372036854775807) (h2 : 0 ≤ b) (h3 : b < 18446744073709551616)
    (e : a * 18446744073709551616 + b < -9223372036854775808 ∨ 9223372036854775807 < a * 18446744073709551616 + b) (w : World) :
    Calls Try.prog 54 #[.agg #[.int .i64 a, .int .u64 b]] w fun e w' => e = .returned (.tuple #[.int .i64 0, .bool false]) ∧ Below w.heap.size w w' := by
  obtain ⟨n, f1⟩ : ∃ n, wrap64 b = n := ⟨_, rfl⟩
  have n0 : -9223372036854775808 ≤ n := by rw [← f1]; simp only [wrap64]; omega
  have n1 : n ≤ 9223372036854775807 := by rw [← f1]; simp only [wrap64]; omega
  obtain ⟨h, hh⟩ : ∃ h, h = n / 18446744073709551616 := ⟨_, rfl⟩
  have hb : h * 18446744073709551616 + b = n := by rw [hh, ← f1]; simp only [wrap64]; omega
  have ne : ¬ a = h := by omega
  have ne2 : ¬ h = a := by omega
  have H := Lib.hid hb
  clear hb e hh
  go_enter Try.func54, Try.ntmps54
  go_wp2
  go_region_held3 (fun w' => w'.cell? ⟨w.heap.size, 0, none⟩ = some (.int .i64 a) ∧ w'.cell? ⟨w.heap.size, 1, none⟩ = some (.int .u64 b)) (simp [go_sem, World.cell?_alloc_past]) (first
    | (go_at_call 50; refine (of_any n h b n0 n1 h2 h3 H.out _).mono ?_; rintro e w' ⟨rfl, rfl⟩))
  go_wp2
  go_returns
  exact ⟨rfl, by go_grown⟩
theorem add_arith (a b c d h l : Int) (h0 : -9223372036854775808 ≤ a) (h1 : a ≤ 9223372036854775807) (h2 : 0 ≤ b) (h3 : b < 18446744073709551616) 
   (g0 : -9223372036854775808 ≤ c) (g1 : c ≤ 9223372036854775807) (g2 : 0 ≤ d) (g3 : d < 18446744073709551616) (p0 : -9223372036854775808 ≤ h) (p1 : h ≤ 9223372036854775807) (p2 : 0 ≤ l) (p3 : l < 18446744073709551616)
   (e : (h * 18446744073709551616 + l - (a * 18446744073709551616 + b) - (c * 18446744073709551616 + d)) % 340282366920938463463374607431768211456 = 0) :
   (b + d) % 18446744073709551616 = l ∧ wrap64 ((IntKind.u64.wrap a + IntKind.u64.wrap c + (b + d) / 18446744073709551616) % 18446744073709551616) = h := by
  simp only [wrap64, IntKind.wrap_u64]
  refine ⟨by omega, by omega⟩
set_option maxHeartbeats 1000000 in
theorem add_c0 (a b c d h l : Int) (h0 : -9223372036854775808 ≤ a) (h1 : a ≤ 9223372036854775807) (h2 : 0 ≤ b) (h3 : b < 18446744073709551616) 
   (g0 : -9223372036854775808 ≤ c) (g1 : c ≤ 9223372036854775807) (g2 : 0 ≤ d) (g3 : d < 18446744073709551616) (p0 : -9223372036854775808 ≤ h) (p1 : h ≤ 9223372036854775807) (p2 : 0 ≤ l) (p3 : l < 18446744073709551616)
   (e : (h * 18446744073709551616 + l - (a * 18446744073709551616 + b) - (c * 18446744073709551616 + d)) % 340282366920938463463374607431768211456 = 0)
   (s1 : a < 0) (s2 : c < 0) (s3 : h < 0) (w : World) :
    Calls Try.prog 52 #[.agg #[.int .i64 a, .int .u64 b], .agg #[.int .i64 c, .int .u64 d]] w fun e w' => e = .returned (.tuple #[.agg #[.int .i64 h, .int .u64 l], .bool true]) ∧ Below w.heap.size w w' := by
  have ⟨f1, f2⟩ := add_arith a b c d h l h0 h1 h2 h3 g0 g1 g2 g3 p0 p1 p2 p3 e
  have k0 : 0 ≤ (b + d) / 18446744073709551616 := by omega
  have k1 : (b + d) / 18446744073709551616 ≤ 1 := by omega
  have u0 : 0 ≤ IntKind.u64.wrap a := by simp only [IntKind.wrap_u64]; omega
  have u1 : 0 ≤ IntKind.u64.wrap c := by simp only [IntKind.wrap_u64]; omega
  have e1 := fun w => add64_0 b d (by omega) (by omega) w
  have e2 := fun w => add64 (IntKind.u64.wrap a) (IntKind.u64.wrap c) _ u0 u1 k0 k1 w
  clear e
  have d1 : decide (a < 0) = true := by simp; omega
  have d2 : decide (c < 0) = true := by simp; omega
  have d3 : decide (h < 0) = true := by simp; omega
  try rw [show IntKind.u64.wrap a = a from by simp only [IntKind.wrap_u64]; omega] at e2 f2
  try rw [show IntKind.u64.wrap c = c from by simp only [IntKind.wrap_u64]; omega] at e2 f2
  go_enter Try.func52, Try.ntmps52
  go_wp2
  clear f1 f2 e1 e2
  go_region_held3 (fun w' => w'.cell? ⟨w.heap.size, 0, none⟩ = some (.int .i64 a) ∧ w'.cell? ⟨w.heap.size, 1, none⟩ = some (.int .u64 b) ∧ w'.cell? ⟨w.heap.size + 1, 0, none⟩ = some (.int .i64 c) ∧ w'.cell? ⟨w.heap.size + 1, 1, none⟩ = some (.int .u64 d) ∧ w'.cell? ⟨w.heap.size + 1 + 1 + 1, 0, none⟩ = some (.int .i64 h) ∧ w'.cell? ⟨w.heap.size + 1 + 1 + 1, 1, none⟩ = some (.int .u64 l)) (simp [go_sem, World.cell?_alloc_past]) (first
   | (go_at_call 63; refine (neg_any _ _ _).mono ?_; rintro e w' ⟨rfl, rfl⟩))
  go_wp2
  go_returns
  exact ⟨rfl, by go_grown⟩
set_option maxHeartbeats 1000000 in
theorem add_c1 (a b c d h l : Int) (h0 : -9223372036854775808 ≤ a) (h1 : a ≤ 9223372036854775807) (h2 : 0 ≤ b) (h3 : b < 18446744073709551616) 
   (g0 : -9223372036854775808 ≤ c) (g1 : c ≤ 9223372036854775807) (g2 : 0 ≤ d) (g3 : d < 18446744073709551616) (p0 : -9223372036854775808 ≤ h) (p1 : h ≤ 9223372036854775807) (p2 : 0 ≤ l) (p3 : l < 18446744073709551616)
   (e : (h * 18446744073709551616 + l - (a * 18446744073709551616 + b) - (c * 18446744073709551616 + d)) % 340282366920938463463374607431768211456 = 0)
   (s1 : ¬ a < 0) (s2 : ¬ c < 0) (s3 : ¬ h < 0) (w : World) :
    Calls Try.prog 52 #[.agg #[.int .i64 a, .int .u64 b], .agg #[.int .i64 c, .int .u64 d]] w fun e w' => e = .returned (.tuple #[.agg #[.int .i64 h, .int .u64 l], .bool true]) ∧ Below w.heap.size w w' := by
  have ⟨f1, f2⟩ := add_arith a b c d h l h0 h1 h2 h3 g0 g1 g2 g3 p0 p1 p2 p3 e
  have k0 : 0 ≤ (b + d) / 18446744073709551616 := by omega
  have k1 : (b + d) / 18446744073709551616 ≤ 1 := by omega
  have u0 : 0 ≤ IntKind.u64.wrap a := by simp only [IntKind.wrap_u64]; omega
  have u1 : 0 ≤ IntKind.u64.wrap c := by simp only [IntKind.wrap_u64]; omega
  have e1 := fun w => add64_0 b d (by omega) (by omega) w
  have e2 := fun w => add64 (IntKind.u64.wrap a) (IntKind.u64.wrap c) _ u0 u1 k0 k1 w
  clear e
  have d1 : decide (a < 0) = false := by simp; omega
  have d2 : decide (c < 0) = false := by simp; omega
  have d3 : decide (h < 0) = false := by simp; omega
  try rw [show IntKind.u64.wrap a = a from by simp only [IntKind.wrap_u64]; omega] at e2 f2
  try rw [show IntKind.u64.wrap c = c from by simp only [IntKind.wrap_u64]; omega] at e2 f2
  go_enter Try.func52, Try.ntmps52
  go_wp2
  clear f1 f2 e1 e2
  go_region_held3 (fun w' => w'.cell? ⟨w.heap.size, 0, none⟩ = some (.int .i64 a) ∧ w'.cell? ⟨w.heap.size, 1, none⟩ = some (.int .u64 b) ∧ w'.cell? ⟨w.heap.size + 1, 0, none⟩ = some (.int .i64 c) ∧ w'.cell? ⟨w.heap.size + 1, 1, none⟩ = some (.int .u64 d) ∧ w'.cell? ⟨w.heap.size + 1 + 1 + 1, 0, none⟩ = some (.int .i64 h) ∧ w'.cell? ⟨w.heap.size + 1 + 1 + 1, 1, none⟩ = some (.int .u64 l)) (simp [go_sem, World.cell?_alloc_past]) (first
   | (go_at_call 63; refine (neg_any _ _ _).mono ?_; rintro e w' ⟨rfl, rfl⟩))
  go_wp2
  go_returns
  exact ⟨rfl, by go_grown⟩
set_option maxHeartbeats 1000000 in
theorem add_c2 (a b c d h l : Int) (h0 : -9223372036854775808 ≤ a) (h1 : a ≤ 9223372036854775807) (h2 : 0 ≤ b) (h3 : b < 18446744073709551616) 
   (g0 : -9223372036854775808 ≤ c) (g1 : c ≤ 9223372036854775807) (g2 : 0 ≤ d) (g3 : d < 18446744073709551616) (p0 : -9223372036854775808 ≤ h) (p1 : h ≤ 9223372036854775807) (p2 : 0 ≤ l) (p3 : l < 18446744073709551616)
   (e : (h * 18446744073709551616 + l - (a * 18446744073709551616 + b) - (c * 18446744073709551616 + d)) % 340282366920938463463374607431768211456 = 0)
   (s1 : a < 0) (s2 : ¬ c < 0) (w : World) :
    Calls Try.prog 52 #[.agg #[.int .i64 a, .int .u64 b], .agg #[.int .i64 c, .int .u64 d]] w fun e w' => e = .returned (.tuple #[.agg #[.int .i64 h, .int .u64 l], .bool true]) ∧ Below w.heap.size w w' := by
  have ⟨f1, f2⟩ := add_arith a b c d h l h0 h1 h2 h3 g0 g1 g2 g3 p0 p1 p2 p3 e
  have k0 : 0 ≤ (b + d) / 18446744073709551616 := by omega
  have k1 : (b + d) / 18446744073709551616 ≤ 1 := by omega
  have u0 : 0 ≤ IntKind.u64.wrap a := by simp only [IntKind.wrap_u64]; omega
  have u1 : 0 ≤ IntKind.u64.wrap c := by simp only [IntKind.wrap_u64]; omega
  have e1 := fun w => add64_0 b d (by omega) (by omega) w
  have e2 := fun w => add64 (IntKind.u64.wrap a) (IntKind.u64.wrap c) _ u0 u1 k0 k1 w
  clear e
  have d1 : decide (a < 0) = true := by simp; omega
  have d2 : decide (c < 0) = false := by simp; omega
  try rw [show IntKind.u64.wrap a = a from by simp only [IntKind.wrap_u64]; omega] at e2 f2
  try rw [show IntKind.u64.wrap c = c from by simp only [IntKind.wrap_u64]; omega] at e2 f2
  go_enter Try.func52, Try.ntmps52
  go_wp2
  clear f1 f2 e1 e2
  go_region_with (go_at_call 63; refine (neg_any _ _ _).mono ?_; rintro e w' ⟨rfl, rfl⟩)
  all_goals go_wp2
  all_goals go_returns
  all_goals exact ⟨rfl, by go_grown⟩
set_option maxHeartbeats 1000000 in
theorem add_c3 (a b c d h l : Int) (h0 : -9223372036854775808 ≤ a) (h1 : a ≤ 9223372036854775807) (h2 : 0 ≤ b) (h3 : b < 18446744073709551616) 
   (g0 : -9223372036854775808 ≤ c) (g1 : c ≤ 9223372036854775807) (g2 : 0 ≤ d) (g3 : d < 18446744073709551616) (p0 : -9223372036854775808 ≤ h) (p1 : h ≤ 9223372036854775807) (p2 : 0 ≤ l) (p3 : l < 18446744073709551616)
   (e : (h * 18446744073709551616 + l - (a * 18446744073709551616 + b) - (c * 18446744073709551616 + d)) % 340282366920938463463374607431768211456 = 0)
   (s1 : ¬ a < 0) (s2 : c < 0) (w : World) :
    Calls Try.prog 52 #[.agg #[.int .i64 a, .int .u64 b], .agg #[.int .i64 c, .int .u64 d]] w fun e w' => e = .returned (.tuple #[.agg #[.int .i64 h, .int .u64 l], .bool true]) ∧ Below w.heap.size w w' := by
  have ⟨f1, f2⟩ := add_arith a b c d h l h0 h1 h2 h3 g0 g1 g2 g3 p0 p1 p2 p3 e
  have k0 : 0 ≤ (b + d) / 18446744073709551616 := by omega
  have k1 : (b + d) / 18446744073709551616 ≤ 1 := by omega
  have u0 : 0 ≤ IntKind.u64.wrap a := by simp only [IntKind.wrap_u64]; omega
  have u1 : 0 ≤ IntKind.u64.wrap c := by simp only [IntKind.wrap_u64]; omega
  have e1 := fun w => add64_0 b d (by omega) (by omega) w
  have e2 := fun w => add64 (IntKind.u64.wrap a) (IntKind.u64.wrap c) _ u0 u1 k0 k1 w
  clear e
  have d1 : decide (a < 0) = false := by simp; omega
  have d2 : decide (c < 0) = true := by simp; omega
  try rw [show IntKind.u64.wrap a = a from by simp only [IntKind.wrap_u64]; omega] at e2 f2
  try rw [show IntKind.u64.wrap c = c from by simp only [IntKind.wrap_u64]; omega] at e2 f2
  go_enter Try.func52, Try.ntmps52
  go_wp2
  clear f1 f2 e1 e2
  go_region_with (go_at_call 63; refine (neg_any _ _ _).mono ?_; rintro e w' ⟨rfl, rfl⟩)
  all_goals go_wp2
  all_goals go_returns
  all_goals exact ⟨rfl, by go_grown⟩
set_option maxHeartbeats 1000000 in
theorem add_c4 (a b c d h l : Int) (h0 : -9223372036854775808 ≤ a) (h1 : a ≤ 9223372036854775807) (h2 : 0 ≤ b) (h3 : b < 18446744073709551616) 
   (g0 : -9223372036854775808 ≤ c) (g1 : c ≤ 9223372036854775807) (g2 : 0 ≤ d) (g3 : d < 18446744073709551616) (p0 : -9223372036854775808 ≤ h) (p1 : h ≤ 9223372036854775807) (p2 : 0 ≤ l) (p3 : l < 18446744073709551616)
   (e : (h * 18446744073709551616 + l - (a * 18446744073709551616 + b) - (c * 18446744073709551616 + d)) % 340282366920938463463374607431768211456 = 0)
   (s1 : a < 0) (s2 : c < 0) (s3 : ¬ h < 0) (w : World) :
    Calls Try.prog 52 #[.agg #[.int .i64 a, .int .u64 b], .agg #[.int .i64 c, .int .u64 d]] w fun e w' => e = .returned (.tuple #[.agg #[.int .i64 0, .int .u64 0], .bool false]) ∧ Below w.heap.size w w' := by
  have ⟨f1, f2⟩ := add_arith a b c d h l h0 h1 h2 h3 g0 g1 g2 g3 p0 p1 p2 p3 e
  have k0 : 0 ≤ (b + d) / 18446744073709551616 := by omega
  have k1 : (b + d) / 18446744073709551616 ≤ 1 := by omega
  have u0 : 0 ≤ IntKind.u64.wrap a := by simp only [IntKind.wrap_u64]; omega
  have u1 : 0 ≤ IntKind.u64.wrap c := by simp only [IntKind.wrap_u64]; omega
  have e1 := fun w => add64_0 b d (by omega) (by omega) w
  have e2 := fun w => add64 (IntKind.u64.wrap a) (IntKind.u64.wrap c) _ u0 u1 k0 k1 w
  clear e
  have d1 : decide (a < 0) = true := by simp; omega
  have d2 : decide (c < 0) = true := by simp; omega
  have d3 : decide (h < 0) = false := by simp; omega
  try rw [show IntKind.u64.wrap a = a from by simp only [IntKind.wrap_u64]; omega] at e2 f2
  try rw [show IntKind.u64.wrap c = c from by simp only [IntKind.wrap_u64]; omega] at e2 f2
  go_enter Try.func52, Try.ntmps52
  go_wp2
  clear f1 f2 e1 e2
  go_region_held3 (fun w' => w'.cell? ⟨w.heap.size, 0, none⟩ = some (.int .i64 a) ∧ w'.cell? ⟨w.heap.size, 1, none⟩ = some (.int .u64 b) ∧ w'.cell? ⟨w.heap.size + 1, 0, none⟩ = some (.int .i64 c) ∧ w'.cell? ⟨w.heap.size + 1, 1, none⟩ = some (.int .u64 d) ∧ w'.cell? ⟨w.heap.size + 1 + 1 + 1, 0, none⟩ = some (.int .i64 h) ∧ w'.cell? ⟨w.heap.size + 1 + 1 + 1, 1, none⟩ = some (.int .u64 l)) (simp [go_sem, World.cell?_alloc_past]) (first
   | (go_at_call 63; refine (neg_any _ _ _).mono ?_; rintro e w' ⟨rfl, rfl⟩))
  go_wp2
  go_returns
  exact ⟨rfl, by go_grown⟩
set_option maxHeartbeats 1000000 in
theorem add_c5 (a b c d h l : Int) (h0 : -9223372036854775808 ≤ a) (h1 : a ≤ 9223372036854775807) (h2 : 0 ≤ b) (h3 : b < 18446744073709551616) 
   (g0 : -9223372036854775808 ≤ c) (g1 : c ≤ 9223372036854775807) (g2 : 0 ≤ d) (g3 : d < 18446744073709551616) (p0 : -9223372036854775808 ≤ h) (p1 : h ≤ 9223372036854775807) (p2 : 0 ≤ l) (p3 : l < 18446744073709551616)
   (e : (h * 18446744073709551616 + l - (a * 18446744073709551616 + b) - (c * 18446744073709551616 + d)) % 340282366920938463463374607431768211456 = 0)
   (s1 : ¬ a < 0) (s2 : ¬ c < 0) (s3 : h < 0) (w : World) :
    Calls Try.prog 52 #[.agg #[.int .i64 a, .int .u64 b], .agg #[.int .i64 c, .int .u64 d]] w fun e w' => e = .returned (.tuple #[.agg #[.int .i64 0, .int .u64 0], .bool false]) ∧ Below w.heap.size w w' := by
  have ⟨f1, f2⟩ := add_arith a b c d h l h0 h1 h2 h3 g0 g1 g2 g3 p0 p1 p2 p3 e
  have k0 : 0 ≤ (b + d) / 18446744073709551616 := by omega
  have k1 : (b + d) / 18446744073709551616 ≤ 1 := by omega
  have u0 : 0 ≤ IntKind.u64.wrap a := by simp only [IntKind.wrap_u64]; omega
  have u1 : 0 ≤ IntKind.u64.wrap c := by simp only [IntKind.wrap_u64]; omega
  have e1 := fun w => add64_0 b d (by omega) (by omega) w
  have e2 := fun w => add64 (IntKind.u64.wrap a) (IntKind.u64.wrap c) _ u0 u1 k0 k1 w
  clear e
  have d1 : decide (a < 0) = false := by simp; omega
  have d2 : decide (c < 0) = false := by simp; omega
  have d3 : decide (h < 0) = true := by simp; omega
  try rw [show IntKind.u64.wrap a = a from by simp only [IntKind.wrap_u64]; omega] at e2 f2
  try rw [show IntKind.u64.wrap c = c from by simp only [IntKind.wrap_u64]; omega] at e2 f2
  go_enter Try.func52, Try.ntmps52
  go_wp2
  clear f1 f2 e1 e2
  go_region_held3 (fun w' => w'.cell? ⟨w.heap.size, 0, none⟩ = some (.int .i64 a) ∧ w'.cell? ⟨w.heap.size, 1, none⟩ = some (.int .u64 b) ∧ w'.cell? ⟨w.heap.size + 1, 0, none⟩ = some (.int .i64 c) ∧ w'.cell? ⟨w.heap.size + 1, 1, none⟩ = some (.int .u64 d) ∧ w'.cell? ⟨w.heap.size + 1 + 1 + 1, 0, none⟩ = some (.int .i64 h) ∧ w'.cell? ⟨w.heap.size + 1 + 1 + 1, 1, none⟩ = some (.int .u64 l)) (simp [go_sem, World.cell?_alloc_past]) (first
   | (go_at_call 63; refine (neg_any _ _ _).mono ?_; rintro e w' ⟨rfl, rfl⟩))
  go_wp2
  go_returns
  exact ⟨rfl, by go_grown⟩
theorem add_mid (a b c d h l h' l' : Int) (ok : Bool) (h0 : -9223372036854775808 ≤ a) (h1 : a ≤ 9223372036854775807) (h2 : 0 ≤ b) (h3 : b < 18446744073709551616) 
   (g0 : -9223372036854775808 ≤ c) (g1 : c ≤ 9223372036854775807) (g2 : 0 ≤ d) (g3 : d < 18446744073709551616) (p0 : -9223372036854775808 ≤ h) (p1 : h ≤ 9223372036854775807) (p2 : 0 ≤ l) (p3 : l < 18446744073709551616)
   (e : (h * 18446744073709551616 + l - (a * 18446744073709551616 + b) - (c * 18446744073709551616 + d)) % 340282366920938463463374607431768211456 = 0)
   (hok : ok = true → h = h' ∧ l = l' ∧ ((a < 0 ∧ c < 0 ∧ h < 0) ∨ (¬ a < 0 ∧ ¬ c < 0 ∧ ¬ h < 0) ∨ (a < 0 ∧ ¬ c < 0) ∨ (¬ a < 0 ∧ c < 0))) (hno : ok = false → h' = 0 ∧ l' = 0 ∧ (a < 0 ∧ c < 0 ∧ ¬ h < 0 ∨ ¬ a < 0 ∧ ¬ c < 0 ∧ h < 0)) (w : World) :
    Calls Try.prog 52 #[.agg #[.int .i64 a, .int .u64 b], .agg #[.int .i64 c, .int .u64 d]] w fun e w' => e = .returned (.tuple #[.agg #[.int .i64 h', .int .u64 l'], .bool ok]) ∧ Below w.heap.size w w' := by
  have hcase : (ok = true ∧ h = h' ∧ l = l' ∧ ((a < 0 ∧ c < 0 ∧ h < 0) ∨ (¬ a < 0 ∧ ¬ c < 0 ∧ ¬ h < 0) ∨ (a < 0 ∧ ¬ c < 0) ∨ (¬ a < 0 ∧ c < 0))) ∨ (ok = false ∧ h' = 0 ∧ l' = 0 ∧ (a < 0 ∧ c < 0 ∧ ¬ h < 0 ∨ ¬ a < 0 ∧ ¬ c < 0 ∧ h < 0)) := by
    cases ok
    · exact .inr ⟨rfl, hno rfl⟩
    · exact .inl ⟨rfl, hok rfl⟩
  rcases hcase with ⟨rfl, rfl, rfl, ⟨s1, s2, s3⟩ | ⟨s1, s2, s3⟩ | ⟨s1, s2⟩ | ⟨s1, s2⟩⟩ | ⟨rfl, rfl, rfl, ⟨s1, s2, s3⟩ | ⟨s1, s2, s3⟩⟩
  · exact add_c0 a b c d _ _ h0 h1 h2 h3 g0 g1 g2 g3 p0 p1 p2 p3 e s1 s2 s3 w
  · exact add_c1 a b c d _ _ h0 h1 h2 h3 g0 g1 g2 g3 p0 p1 p2 p3 e s1 s2 s3 w
  · exact add_c2 a b c d _ _ h0 h1 h2 h3 g0 g1 g2 g3 p0 p1 p2 p3 e s1 s2 w
  · exact add_c3 a b c d _ _ h0 h1 h2 h3 g0 g1 g2 g3 p0 p1 p2 p3 e s1 s2 w
  · exact add_c4 a b c d _ _ h0 h1 h2 h3 g0 g1 g2 g3 p0 p1 p2 p3 e s1 s2 s3 w
  · exact add_c5 a b c d _ _ h0 h1 h2 h3 g0 g1 g2 g3 p0 p1 p2 p3 e s1 s2 s3 w
end Go.Proofs.Ytmelbgabiklojaa
