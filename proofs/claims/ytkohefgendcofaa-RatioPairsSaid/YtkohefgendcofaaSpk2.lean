/- speaks of layer 2; lowest terms may be. -/
import Derived.Test.YtkohefgendcofaaRatioC
import Derived.WalkKit
import Derived.WalkSpells
import Derived.WalkLawsBesides
import Derived.Handy
import Derived.Lib.Hide
import Derived.Deep.QuietTactic
import Derived.BigQuiet
import Derived.LoopTactic
import Derived.Deep.RegionHeld3
import Derived.Deep.RegionWith
import Derived.Outline
import Derived.Deep.DeepCutAuto
namespace Go.Proofs.Ytkohefgendcofaa
open Go.RowKit
set_option linter.unusedVariables false
set_option maxRecDepth 100000
set_option linter.unusedSimpArgs false



theorem Lowest.good {n d g N D : Int} (L : Lowest n d g N D) : goodB N D = true := by
  have g0 := L.gpos
  have D0 := L.Dpos
  have e1 := L.eN
  have e2 := L.eD
  have hg := L.hg
  have k : Int.gcd (N * g) (D * g) = Int.gcd n d := by
    rw [e1, e2]
    split <;> simp
  rw [Int.gcd_mul_right] at k
  have k2 : Int.gcd N D * g.natAbs = 1 * g.natAbs := by omega
  have k3 : Int.gcd N D = 1 := Nat.eq_of_mul_eq_mul_right (by omega) k2
  unfold goodB
  rw [decide_eq_true D0, k3]
  rfl
theorem speaks2_any (w : World) : Calls Try.prog 22 #[] w fun e w' => e = .returned (.bool true) ∧ Below w.heap.size w w' := by
  have L : Lowest 6 (-4) 2 (-3) 2 := ⟨by decide, by decide, by decide, by decide, by decide, by decide, by decide, by decide⟩
  go_enter Try.func22, Try.ntmps22
  go_wp2_with fail
  refine (of_any' L 0 (-3) 2 (by decide) _).mono ?_
  rintro e w1 ⟨rfl, hb1⟩
  have HB1 := Lib.hid (hb1.alloc hb1.size (.cells #[.int .i64 (-3), .int .i64 2] 42))
  clear hb1
  go_wp2_with fail
  refine (down_ok (-3) 2 3 (-5) 1 (by decide) (by decide) (by decide) (by decide) (by decide) (by decide) (by decide) (Lib.hid (by decide)) (by decide) (by decide) (by decide) (by decide) _).mono ?_
  rintro e w2 ⟨rfl, hb2⟩
  have c0 : w2.cell? ⟨w1.heap.size, 0, none⟩ = some (.int .i64 (-3)) := cell_later hb2 (by simp [go_sem])
  have c1 : w2.cell? ⟨w1.heap.size, 1, none⟩ = some (.int .i64 2) := cell_later hb2 (by simp [go_sem])
  have HB2 := Lib.hid (HB1.out.trans (hb2.mono HB1.out.size))
  clear hb2
  go_wp2_with fail
  refine (half_any (-3) 2 3 (-5) 1 (-4) (-4) 0 (by decide) (by decide) (by decide) (by decide) (by decide) (by decide) (by decide) (by decide) (by decide) (by decide) (by decide) (by decide) _).mono ?_
  rintro e w3 ⟨rfl, hb3⟩
  have c2 : w3.cell? ⟨w1.heap.size, 0, none⟩ = some (.int .i64 (-3)) := cell_later hb3 c0
  have c3 : w3.cell? ⟨w1.heap.size, 1, none⟩ = some (.int .i64 2) := cell_later hb3 c1
  have HB3 := Lib.hid (HB2.out.trans (hb3.mono HB2.out.size))
  clear hb3 c0 c1
  go_wp2_with fail
  refine (of_zero 1 _).mono ?_
  rintro e w4 ⟨rfl, hb4⟩
  have c4 : w4.cell? ⟨w1.heap.size, 0, none⟩ = some (.int .i64 (-3)) := cell_later hb4 c2
  have c5 : w4.cell? ⟨w1.heap.size, 1, none⟩ = some (.int .i64 2) := cell_later hb4 c3
  have n4 := World.block_lt_of_cell? w4 _ c4
  simp only at n4
  have HB4 := Lib.hid ((HB3.out.trans (hb4.mono HB3.out.size)).alloc (Nat.le_trans HB3.out.size hb4.size) (.cells #[.int .i64 0, .int .i64 0] 42))
  clear hb4 c2 c3
  go_wp2_with fail
  refine (good_any (-3) 2 (by decide) (by decide) (by decide) (by decide) _).mono ?_
  rintro e w5 ⟨rfl, hb5⟩
  have HB5 := Lib.hid (HB4.out.trans (hb5.mono HB4.out.size))
  have hg : goodB (-3) 2 = true := by decide
  clear hb5
  go_wp2_with fail
  go_returns
  exact ⟨rfl, HB5.out⟩
end Go.Proofs.Ytkohefgendcofaa
