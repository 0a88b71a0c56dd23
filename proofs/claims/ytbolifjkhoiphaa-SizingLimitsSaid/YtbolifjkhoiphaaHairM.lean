/- The walk of FixedPixels. -/
import Derived.Test.YtbolifjkhoiphaaSpk4
import Derived.Test.YtbolifjkhoiphaaRefC
import Derived.Test.YtbolifjkhoiphaaParts
import Derived.Test.YtbolifjkhoiphaaRefD
import Derived.Test.YtbolifjkhoiphaaRegW
import Derived.WalkKit
import Derived.WalkSpells
import Derived.WalkLawsBesides
import Derived.Handy
import Derived.Lib.Hide
import Derived.Deep.QuietTactic
import Derived.BigQuiet
import Derived.LoopTactic
import Derived.Deep.RegionHeld3
import Derived.Deep.RegionWith
import Derived.Outline
import Derived.Deep.DeepCutAuto
import Derived.LaidEql
namespace Go.Proofs.Ytbolifjkhoiphaa
open Go.RowKit Go.Proofs.Big Go.Proofs.Reg
set_option linter.unusedVariables false
set_option linter.unusedSimpArgs false
set_option maxRecDepth 100000
theorem undrew {w w' : World} (h : Below w.drew.heap.size w.drew w') : Below w.heap.size w w' := below_undrew h
end Go.Proofs.Ytbolifjkhoiphaa
/- The walk of FixedParts. -/
namespace Go.Proofs.Ytbolifjkhoiphaa
open Go.RowKit Go.Proofs.Big Go.Proofs.Reg
set_option linter.unusedVariables false
set_option linter.unusedSimpArgs false
set_option maxRecDepth 100000
/-- what the program and the reference say of a part, the same -/
structure Same3 (x n d v er : Int) : Prop where
  prog : ∀ w, Calls Try.prog 70 #[.int .i64 x, .int .i64 n, .int .i64 d] w fun e w' => Ends v er e ∧ Below w.heap.size w w'
  ref : ∀ w, Calls Try.prog 78 #[.int .i64 x, .int .i64 n, .int .i64 d] w fun e w' => e = .returned (.tuple #[.int .i64 v, .int .i64 er]) ∧ Below w.heap.size w w'
  zero : er ≠ 0 → v = 0
theorem Tl.zero {n v er : Int} (h : Tl n v er) : er ≠ 0 → v = 0 := fun z => by
  rcases h with ⟨_, _, h⟩ | ⟨_, h, _⟩
  · exact absurd h z
  · exact h
theorem prod_127 (x n : Int) (x0 : -9223372036854775808 ≤ x) (x1 : x ≤ 9223372036854775807) (n0 : -9223372036854775808 ≤ n) (n1 : n ≤ 9223372036854775807) : -170141183460469231731687303715884105728 ≤ x * n ∧ x * n < 170141183460469231731687303715884105728 := by
  have := prod_range x n x0 x1 n0 n1
  omega
theorem same3_ex (x n d : Int) (x0 : -9223372036854775808 ≤ x) (x1 : x ≤ 9223372036854775807) (n0 : -9223372036854775808 ≤ n) (n1 : n ≤ 9223372036854775807) (d0 : -9223372036854775808 ≤ d) (d1 : d ≤ 9223372036854775807) : ∃ v er, Same3 x n d v er := by
  by_cases z : d = 0
  · subst z
    refine ⟨0, 3, fun w => (fpart_zero x n w).mono ?_, part4_zero x n, fun _ => rfl⟩
    rintro e w' ⟨rfl, rfl⟩
    exact ⟨.inr ⟨by decide, rfl, rfl⟩, Below.refl _ _⟩
  · obtain ⟨p0, p1⟩ := prod_127 x n x0 x1 n0 n1
    obtain ⟨q, r, Q, R, F⟩ := df_ex (x * n) d z p0 p1
    obtain ⟨v, er, ht⟩ := tl_ex q
    exact ⟨v, er, part_ends x n d q r Q R v er x0 x1 n0 n1 d0 d1 F ht, part4_any x n d q r Q R v er x0 x1 n0 n1 d0 d1 F ht, ht.zero⟩
/-- a good ratio's scale, and the reference's part -/
theorem scale_same (x n d : Int) (x0 : -9223372036854775808 ≤ x) (x1 : x ≤ 9223372036854775807) (n0 : -9223372036854775808 ≤ n) (n1 : n ≤ 9223372036854775807) (d0 : 1 ≤ d) (d1 : d ≤ 9223372036854775807) (hg : goodB n d = true) :
    ∃ v er, (∀ w, Calls Try.prog 76 #[.int .i64 x, .agg #[.int .i64 n, .int .i64 d]] w fun e w' => Ends v er e ∧ Below w.heap.size w w') ∧
      (∀ w, Calls Try.prog 78 #[.int .i64 x, .int .i64 n, .int .i64 d] w fun e w' => e = .returned (.tuple #[.int .i64 v, .int .i64 er]) ∧ Below w.heap.size w w') ∧ (er ≠ 0 → v = 0) := by
  obtain ⟨p0, p1⟩ := prod_127 x n x0 x1 n0 n1
  obtain ⟨q, r, Q, R, F⟩ := df_ex (x * n) d (by omega) p0 p1
  have hq : x * n / d = q := ((Int.ediv_emod_unique (a := x * n) (r := r) (q := q) (show 0 < d by omega)).2 ⟨by have := F.er; rw [Int.mul_comm d q]; omega, by have := F.rr; omega, by have := F.rr; omega⟩).1
  obtain ⟨v, er, ht⟩ := tl_ex q
  refine ⟨v, er, scale_ends x n d v er x0 x1 n0 n1 d0 d1 hg (by rw [hq]; exact ht), part4_any x n d q r Q R v er x0 x1 n0 n1 (by omega) d1 F ht, ht.zero⟩
theorem goodB_pos {n d : Int} (h : goodB n d = true) : 1 ≤ d := by
  unfold goodB at h
  rw [Bool.and_eq_true] at h
  exact of_decide_eq_true h.1
end Go.Proofs.Ytbolifjkhoiphaa
/- A border's whole pixels: the program's and the reference's. -/
namespace Go.Proofs.Ytbolifjkhoiphaa
open Go.RowKit Go.Proofs.Big Go.Proofs.Reg
set_option linter.unusedVariables false
set_option linter.unusedSimpArgs false
set_option maxRecDepth 100000
/-- the whole pixels of a border x whose exact width is s -/
def hairV (x s : Int) : Int := if x = 0 then 0 else max (s / 64) 1 * 64
end Go.Proofs.Ytbolifjkhoiphaa
