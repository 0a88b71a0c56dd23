/- Package wide: what each function returns, and that of memory only new blocks are laid. -/
import Derived.Test.YtdccoebjcaemcaaRRRRows
import Derived.Test.YtdccoebjcaemcaaRRRShelf
import Derived.Test.YtdccoebjcaemcaaRRRNum
import Derived.Test.YtdccoebjcaemcaaRRRDiv64
import Derived.Test.YtdccoebjcaemcaaRRRWide
import Derived.WalkKit
import Derived.WalkSpells
import Derived.WalkLawsBesides
import Derived.Handy
import Derived.Lib.Hide
import Derived.Deep.QuietTactic
import Derived.BigQuiet
import Derived.Deep.RegionHeld3
import Derived.Deep.RegionWith
import Derived.Shelf.Spec.BitsCarry
namespace Go.Proofs.YtdccoebjcaemcaaRRR
open Go.RowKit
set_option linter.unusedVariables false

def cmpI (x y : Int) : Int := if x = y then 0 else if x < y then -1 else 1
theorem int_ok (a b n : Int) (h0 : -9223372036854775808 ≤ a) (h1 : a ≤ 9223372036854775807) (h2 : 0 ≤ b) (h3 : b < 18446744073709551616)
    (n0 : -9223372036854775808 ≤ n) (n1 : n ≤ 9223372036854775807) (e : a * 18446744073709551616 + b = n) (w : World) :
    Calls Try.prog 112 #[.agg #[.int .i64 a, .int .u64 b]] w fun e w' => e = .returned (.tuple #[.int .i64 n, .bool true]) ∧ Below w.heap.size w w' := by
  have f1 : wrap64 b = n := by simp only [wrap64]; omega
  have H := Lib.hid e
  clear e
  go_enter Try.func112, Try.ntmps112
  go_wp2
  go_region_held3 (fun w' => w'.cell? ⟨w.heap.size, 0, none⟩ = some (.int .i64 a) ∧ w'.cell? ⟨w.heap.size, 1, none⟩ = some (.int .u64 b)) (simp [go_sem, World.cell?_alloc_past]) (first
    | (go_at_call 122; refine (of_any n a b n0 n1 h2 h3 H.out _).mono ?_; rintro e w' ⟨rfl, rfl⟩))
  go_wp2
  go_returns
  exact ⟨rfl, by go_grown⟩
theorem int_no (a b : Int) (h0 : -9223372036854775808 ≤ a) (h1 : a ≤ 9223372036854775807) (h2 : 0 ≤ b) (h3 : b < 18446744073709551616)
    (e : a * 18446744073709551616 + b < -9223372036854775808 ∨ 9223372036854775807 < a * 18446744073709551616 + b) (w : World) :
    Calls Try.prog 112 #[.agg #[.int .i64 a, .int .u64 b]] w fun e w' => e = .returned (.tuple #[.int .i64 0, .bool false]) ∧ Below w.heap.size w w' := by
  obtain ⟨n, f1⟩ : ∃ n, wrap64 b = n := ⟨_, rfl⟩
  have n0 : -9223372036854775808 ≤ n := by rw [← f1]; simp only [wrap64]; omega
  have n1 : n ≤ 9223372036854775807 := by rw [← f1]; simp only [wrap64]; omega
  obtain ⟨h, hh⟩ : ∃ h, h = n / 18446744073709551616 := ⟨_, rfl⟩
  have hb : h * 18446744073709551616 + b = n := by rw [hh, ← f1]; simp only [wrap64]; omega
  have ne : ¬ a = h := by omega
  have ne2 : ¬ h = a := by omega
  have H := Lib.hid hb
  clear hb e hh
  go_enter Try.func112, Try.ntmps112
  go_wp2
  go_region_held3 (fun w' => w'.cell? ⟨w.heap.size, 0, none⟩ = some (.int .i64 a) ∧ w'.cell? ⟨w.heap.size, 1, none⟩ = some (.int .u64 b)) (simp [go_sem, World.cell?_alloc_past]) (first
    | (go_at_call 122; refine (of_any n h b n0 n1 h2 h3 H.out _).mono ?_; rintro e w' ⟨rfl, rfl⟩))
  go_wp2
  go_returns
  exact ⟨rfl, by go_grown⟩
theorem add_arith (a b c d h l : Int) (h0 : -9223372036854775808 ≤ a) (h1 : a ≤ 9223372036854775807) (h2 : 0 ≤ b) (h3 : b < 18446744073709551616) 
   (g0 : -9223372036854775808 ≤ c) (g1 : c ≤ 9223372036854775807) (g2 : 0 ≤ d) (g3 : d < 18446744073709551616) (p0 : -9223372036854775808 ≤ h) (p1 : h ≤ 9223372036854775807) (p2 : 0 ≤ l) (p3 : l < 18446744073709551616)
   (e : (h * 18446744073709551616 + l - (a * 18446744073709551616 + b) - (c * 18446744073709551616 + d)) % 340282366920938463463374607431768211456 = 0) :
   (b + d) % 18446744073709551616 = l ∧ wrap64 ((IntKind.u64.wrap a + IntKind.u64.wrap c + (b + d) / 18446744073709551616) % 18446744073709551616) = h := by
  simp only [wrap64, IntKind.wrap_u64]
  refine ⟨by omega, by omega⟩
end Go.Proofs.YtdccoebjcaemcaaRRR
