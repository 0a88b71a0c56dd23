/- Package wide once more: sums, negations, comparisons, by their values. -/
import Derived.Test.YtlkpegfbnmecpaaDoorKit0
import Derived.WalkKit
import Derived.WalkSpells
import Derived.WalkLawsBesides
import Derived.Handy
import Derived.Lib.Hide
import Derived.Deep.QuietTactic
import Derived.BigQuiet
import Derived.Deep.RegionHeld3
import Derived.Deep.RegionWith
import Derived.RegionTactic
import Derived.BigRegion
import Derived.Outline
import Derived.Deep.DeepCutAuto
namespace Go.Proofs.YtlkpegfbnmecpaaDoor
open Go.RowKit
set_option linter.unusedVariables false
set_option maxRecDepth 100000
set_option linter.unusedSimpArgs false

/-- three numbers in memory -/
structure Cells3 (w : World) (x y z : Nat) (a b c d f g : Int) : Prop where
  q0 : w.cell? ⟨x, 0, none⟩ = some (.int .i64 a)
  q1 : w.cell? ⟨x, 1, none⟩ = some (.int .u64 b)
  q2 : w.cell? ⟨y, 0, none⟩ = some (.int .i64 c)
  q3 : w.cell? ⟨y, 1, none⟩ = some (.int .u64 d)
  q4 : w.cell? ⟨z, 0, none⟩ = some (.int .i64 f)
  q5 : w.cell? ⟨z, 1, none⟩ = some (.int .u64 g)
theorem Cells3.later {w w' : World} {x y z : Nat} {a b c d f g : Int} (h : Cells3 w x y z a b c d f g) (hb : Below w.heap.size w w') : Cells3 w' x y z a b c d f g :=
  ⟨cell_later hb h.q0, cell_later hb h.q1, cell_later hb h.q2, cell_later hb h.q3, cell_later hb h.q4, cell_later hb h.q5⟩
theorem Cells3.alloc {w : World} {x y z : Nat} {a b c d f g : Int} (h : Cells3 w x y z a b c d f g) (o : Obj) : Cells3 (w.alloc o) x y z a b c d f g :=
  ⟨keep_alloc h.q0, keep_alloc h.q1, keep_alloc h.q2, keep_alloc h.q3, keep_alloc h.q4, keep_alloc h.q5⟩
theorem cmp_below (a b c d m : Int) (h2 : 0 ≤ b) (h3 : b < 18446744073709551616) (g2 : 0 ≤ d) (g3 : d < 18446744073709551616)
    (hm : m = cmpI (a * 18446744073709551616 + b) (c * 18446744073709551616 + d)) (w : World) :
    Calls Tryd.prog 63 #[.agg #[.int .i64 a, .int .u64 b], .agg #[.int .i64 c, .int .u64 d]] w fun e w' => e = .returned (.int .i64 m) ∧ Below w.heap.size w w' :=
  (cmp_any a b c d m h2 h3 g2 g3 hm w).mono fun e w' h => ⟨h.1, by rw [h.2]; go_grown⟩
theorem add_ex (a b c d : Int) (h0 : -9223372036854775808 ≤ a) (h1 : a ≤ 9223372036854775807) (h2 : 0 ≤ b) (h3 : b < 18446744073709551616) 
   (g0 : -9223372036854775808 ≤ c) (g1 : c ≤ 9223372036854775807) (g2 : 0 ≤ d) (g3 : d < 18446744073709551616) :
   ∃ (ok : Bool) (h l : Int), -9223372036854775808 ≤ h ∧ h ≤ 9223372036854775807 ∧ 0 ≤ l ∧ l < 18446744073709551616 ∧
     (ok = true → h * 18446744073709551616 + l = (a * 18446744073709551616 + b) + (c * 18446744073709551616 + d)) ∧
     (ok = decide (-170141183460469231731687303715884105728 ≤ (a * 18446744073709551616 + b) + (c * 18446744073709551616 + d) ∧ (a * 18446744073709551616 + b) + (c * 18446744073709551616 + d) < 170141183460469231731687303715884105728)) ∧
     (ok = false → h = 0 ∧ l = 0) ∧
     ∀ w : World, Calls Tryd.prog 68 #[.agg #[.int .i64 a, .int .u64 b], .agg #[.int .i64 c, .int .u64 d]] w fun e w' => e = .returned (.tuple #[.agg #[.int .i64 h, .int .u64 l], .bool ok]) ∧ Below w.heap.size w w' := by
  by_cases hS : -170141183460469231731687303715884105728 ≤ (a * 18446744073709551616 + b) + (c * 18446744073709551616 + d) ∧ (a * 18446744073709551616 + b) + (c * 18446744073709551616 + d) < 170141183460469231731687303715884105728
  · obtain ⟨h, l, x0, x1, x2, x3, xe⟩ := hl ((a * 18446744073709551616 + b) + (c * 18446744073709551616 + d)) hS.1 hS.2
    exact ⟨true, h, l, x0, x1, x2, x3, fun _ => xe, by rw [decide_eq_true hS], (fun h => by cases h), fun w => add_mid a b c d h l h l true h0 h1 h2 h3 g0 g1 g2 g3 x0 x1 x2 x3 (by omega) (fun _ => ⟨rfl, rfl, by omega⟩) (fun h => by cases h) w⟩
  · by_cases hp : (a * 18446744073709551616 + b) + (c * 18446744073709551616 + d) < 0
    · obtain ⟨h, l, x0, x1, x2, x3, xe⟩ := hl ((a * 18446744073709551616 + b) + (c * 18446744073709551616 + d) + 340282366920938463463374607431768211456) (by omega) (by omega)
      exact ⟨false, 0, 0, by decide, by decide, by decide, by decide, (fun h => by cases h), by rw [decide_eq_false hS], fun _ => ⟨rfl, rfl⟩, fun w => add_mid a b c d h l 0 0 false h0 h1 h2 h3 g0 g1 g2 g3 x0 x1 x2 x3 (by omega) (fun h => by cases h) (fun _ => ⟨rfl, rfl, by omega⟩) w⟩
    · obtain ⟨h, l, x0, x1, x2, x3, xe⟩ := hl ((a * 18446744073709551616 + b) + (c * 18446744073709551616 + d) - 340282366920938463463374607431768211456) (by omega) (by omega)
      exact ⟨false, 0, 0, by decide, by decide, by decide, by decide, (fun h => by cases h), by rw [decide_eq_false hS], fun _ => ⟨rfl, rfl⟩, fun w => add_mid a b c d h l 0 0 false h0 h1 h2 h3 g0 g1 g2 g3 x0 x1 x2 x3 (by omega) (fun h => by cases h) (fun _ => ⟨rfl, rfl, by omega⟩) w⟩
theorem cmpI_range (x y : Int) : -1 ≤ cmpI x y ∧ cmpI x y ≤ 1 := by unfold cmpI; split <;> (try split) <;> omega
theorem cmpI_swap (x y : Int) : cmpI y x = -cmpI x y := by unfold cmpI; repeat' split
                                                           all_goals omega
end Go.Proofs.YtlkpegfbnmecpaaDoor
