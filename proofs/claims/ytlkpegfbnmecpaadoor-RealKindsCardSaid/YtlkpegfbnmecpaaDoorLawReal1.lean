/- The walk of RealKinds. -/
import Derived.Test.YtlkpegfbnmecpaaDoorSpk3c
import Derived.WalkKit
import Derived.WalkSpells
import Derived.WalkLawsBesides
import Derived.Handy
import Derived.Lib.Hide
import Derived.Outline
namespace Go.Proofs.YtlkpegfbnmecpaaDoor
open Go.RowKit Go.Proofs.Flo
set_option linter.unusedVariables false
set_option linter.unusedSimpArgs false
set_option maxRecDepth 100000
theorem law_kinds (x y : Nat) (hx : x < 18446744073709551616) (hy : y < 18446744073709551616) (w : World) (hD : Deb w) :
    Calls Tryd.prog 3 #[.int .u64 (x : Int), .int .u64 (y : Int)] w fun e w' => e = .returned (.bool true) ∧ Below w.heap.size w w' := by
  have HS := Lib.hid (speaks3_any w hD)
  have K := Lib.hid (kkind_any x hx)
  have K3 := Lib.hid (kind3_any x hx)
  have C := Lib.hid (kcmp_any x y hx hy)
  have C3 := Lib.hid (cmp3_any x y hx hy)
  rw [cmpB_eq x y hx hy] at C
  have r1 : ∀ w : World, (callFunc 12 #[.int .u64 (x : Int)]).run Tryd.prog w = .ok (.value (.float .f64 x)) w := fun w => run_frombits x w
  have r2 : ∀ w : World, (callFunc 12 #[.int .u64 (y : Int)]).run Tryd.prog w = .ok (.value (.float .f64 y)) w := fun w => run_frombits y w
  clear hD
  go_enter Tryd.func3, Tryd.ntmps3
  go_wp2_with fail
  refine HS.out.mono ?_
  rintro e w1 ⟨rfl, hb1⟩
  have K1 := Lib.hid hb1
  clear hb1
  go_wp2_with fail
  refine (K.out _).mono ?_
  rintro e w2 ⟨rfl, rfl⟩
  go_wp2_with fail
  refine (K3.out _).mono ?_
  rintro e w3 ⟨rfl, rfl⟩
  go_wp2_with fail
  refine (C.out _).mono ?_
  rintro e w4 ⟨rfl, rfl⟩
  go_wp2_with fail
  refine (C3.out _).mono ?_
  rintro e w5 ⟨rfl, rfl⟩
  go_wp2_with fail
  go_returns
  exact ⟨rfl, K1.out⟩
end Go.Proofs.YtlkpegfbnmecpaaDoor
