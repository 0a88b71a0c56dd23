/- What the law's speaks asks of package real: the answers. -/
import Derived.Test.YtbolifjkhoiphaaDoorGrid
import Derived.WalkKit
import Derived.WalkSpells
import Derived.WalkLawsBesides
import Derived.Handy
import Derived.Lib.Hide
import Derived.Outline
namespace Go.Proofs.YtbolifjkhoiphaaDoor
open Go.RowKit Go.Proofs.Flo Go.Proofs.Reg
set_option linter.unusedVariables false
set_option linter.unusedSimpArgs false
set_option maxRecDepth 100000
theorem grid_some (x : Nat) (n den lo hi : Int) (h : Nat) (HS : ∀ w, Deb w → Calls Tryd.prog 88 #[.float .f64 x] w fun e w' => e = .returned (.tuple #[.int .i64 n, .int .i64 h]) ∧ Below w.heap.size w w')
    (n0 : -9223372036854775808 ≤ n) (n1 : n ≤ 9223372036854775807) (d0 : 1 ≤ den) (d1 : den ≤ 1048576) (hh : h ≤ 100000) (a0 : -9223372036854775808 ≤ lo) (a1 : lo ≤ hi) (a2 : hi ≤ 9223372036854775807) (nn : nanB x = false)
    (g1 : (FloatKind.f64.format.order x 4890909195324358656 == some Ordering.gt) = false) (g2 : (FloatKind.f64.format.order x 4890909195324358656 == some Ordering.eq) = false) (g3 : (FloatKind.f64.format.order x 14114281232179134464 == some Ordering.lt) = false) (w : World) (hD : Deb w) :
    Calls Tryd.prog 48 #[.float .f64 x, .int .i64 den, .int .i64 lo, .int .i64 hi] w fun e w' => e = .returned (.tuple #[.int .i64 (lmt (gridOf n den h) lo hi), .int .i64 0]) ∧ Below w.heap.size w w' := by
  have P := Lib.hid (parts_any x n den h HS n0 n1 (by omega) (by omega) hh)
  have N := Lib.hid (isnan_any x)
  rw [nn] at N
  have HD := Lib.hid hD
  have LM := Lib.hid (fun (h' l : Int) p0 p1 p2 p3 e => limited_any h' l (gridOf n den h) lo hi p0 p1 p2 p3 e a0 (by omega) (by omega) a2)
  clear hD HS nn
  go_enter Tryd.func48, Tryd.ntmps48
  go_wp2_with fail
  refine (N.out _).mono ?_
  rintro e w1 ⟨rfl, rfl⟩
  go_wp2_with fail
  refine (P.out _ HD.out).mono ?_
  rintro e w2 ⟨⟨h', l, rfl, pe, p0, p1, p2, p3⟩, hb⟩
  have KB := Lib.hid hb
  have L := Lib.hid (LM.out h' l p0 p1 p2 p3 pe)
  clear hb pe
  go_wp2_with fail
  refine (L.out _).mono ?_
  rintro e w3 ⟨rfl, hb⟩
  have KB := Lib.hid (bel_tr0 KB.out hb)
  clear hb
  go_wp2_with fail
  go_returns
  exact ⟨rfl, KB.out⟩
theorem grid_a (w : World) (hD : Deb w) : Calls Tryd.prog 48 #[.float .f64 4609434218613702656, .int .i64 64, .int .i64 0, .int .i64 1000] w fun e w' => e = .returned (.tuple #[.int .i64 96, .int .i64 0]) ∧ Below w.heap.size w w' :=
  grid_some 4609434218613702656 3 64 0 1000 1 (fun w h => (split_a w h).mono fun e w' k => ⟨k.1, by rw [k.2]; exact Below.refl _ _⟩) (by decide) (by decide) (by decide) (by decide) (by decide) (by decide) (by decide) (by decide) (by decide) (by decide +kernel) (by decide +kernel) (by decide +kernel) w hD
theorem grid_nan (x : Nat) (den lo hi : Int) (d0 : 1 ≤ den) (d1 : den ≤ 1048576) (a1 : lo ≤ hi) (nn : nanB x = true) (w : World) : Calls Tryd.prog 48 #[.float .f64 x, .int .i64 den, .int .i64 lo, .int .i64 hi] w fun e w' => e = .returned (.tuple #[.int .i64 0, .int .i64 4]) ∧ Below w.heap.size w w' := by
  have N := Lib.hid (isnan_any x)
  rw [nn] at N
  clear nn
  go_enter Tryd.func48, Tryd.ntmps48
  go_wp2_with fail
  refine (N.out _).mono ?_
  rintro e w1 ⟨rfl, rfl⟩
  go_wp2_with fail
  go_returns
  exact ⟨rfl, Below.refl _ _⟩
theorem nan_any (w : World) : Calls Tryd.prog 34 #[] w fun e w' => e = .returned (.float .f64 9221120237041090561) ∧ w' = w := by
  have q := run_frombits 9221120237041090561
  go_enter Tryd.func34, Tryd.ntmps34
  go_wp2_with fail
  go_returns
  exact ⟨rfl, rfl⟩
theorem copysign_a (w : World) : Calls Tryd.prog 36 #[.float .f64 0, .float .f64 13830554455654793216] w fun e w' => e = .returned (.float .f64 9223372036854775808) ∧ w' = w := by
  have q := run_frombits 9223372036854775808
  have r1 := run_bits 0
  have r2 := run_bits 13830554455654793216
  have b1 : bits BinOp.andNot IntKind.u64 0 9223372036854775808 = 0 := by decide +kernel
  have b2 : bits BinOp.and IntKind.u64 13830554455654793216 9223372036854775808 = 9223372036854775808 := by decide +kernel
  have b3 : bits BinOp.or IntKind.u64 0 9223372036854775808 = 9223372036854775808 := by decide +kernel
  go_enter Tryd.func36, Tryd.ntmps36
  go_wp2_with fail
  go_returns
  exact ⟨rfl, rfl⟩
end Go.Proofs.YtbolifjkhoiphaaDoor
