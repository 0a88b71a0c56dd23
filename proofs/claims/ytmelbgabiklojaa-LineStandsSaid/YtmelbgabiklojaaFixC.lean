/- Parts, scaled numbers: the program's and the reference's; arrays of three compared. -/
import Derived.Test.YtmelbgabiklojaaLen
import Derived.Test.YtmelbgabiklojaaBut
import Derived.Test.YtmelbgabiklojaaLawRatioM
import Derived.WalkKit
import Derived.WalkSpells
import Derived.WalkLawsBesides
import Derived.Handy
import Derived.Lib.Hide
import Derived.ChangeKeysEq
import Derived.Deep.QuietTactic
import Derived.BigQuiet
import Derived.LoopTactic
import Derived.RegionTactic
import Derived.BigRegion
import Derived.Deep.RegionHeld3
import Derived.Deep.RegionWith
import Derived.Outline
import Derived.Deep.DeepCutAuto
namespace Go.Proofs.Ytmelbgabiklojaa
open Go.RowKit Go.Proofs.Big Go.Proofs.Reg
set_option linter.unusedVariables false
set_option linter.unusedSimpArgs false
set_option maxRecDepth 100000
/-- rounding down, as the reference does it -/
structure DF (x d q r Q R : Int) : Prop where
  dz : d ≠ 0
  hQ : Q = (if x < 0 then -x else x) / (if d < 0 then -d else d)
  hR : R = (if x < 0 then -x else x) % (if d < 0 then -d else d)
  e0 : (decide (x < 0) == decide (d < 0)) = true → q = Q
  e1 : (decide (x < 0) == decide (d < 0)) = false → q = if R = 0 then -Q else -Q - 1
  er : r = x - q * d
  rr : (0 ≤ r ∧ r < d) ∨ (d < r ∧ r ≤ 0)
  Q0 : 0 ≤ Q
  Q1 : Q ≤ 170141183460469231731687303715884105728
  q0 : -170141183460469231731687303715884105728 ≤ q
  q1 : q ≤ 170141183460469231731687303715884105728
theorem df_ex (x d : Int) (dz : d ≠ 0) (x0 : -170141183460469231731687303715884105728 ≤ x) (x1 : x < 170141183460469231731687303715884105728) : ∃ q r Q R, DF x d q r Q R := by
  obtain ⟨q, r, Q, R, a, b, c, e, f, g, h, i, j, k, _⟩ := down_facts x d dz x0 x1
  exact ⟨q, r, Q, R, dz, a, b, c, e, f, g, h, i, j, k⟩
/-- a number, or giving up -/
def Ends (v er : Int) (e : Ending) : Prop := (er = 0 ∧ e = .returned (.int .i64 v)) ∨ (er ≠ 0 ∧ v = 0 ∧ e = .panicked (gave er))
theorem ends_of {q v er : Int} {e : Ending} (ht : Tl q v er) (h : Told (asLen q) e) : Ends v er e := by
  rcases ht with ⟨hl, rfl, rfl⟩ | ⟨hl, rfl, rfl⟩
  · rw [asLen, if_pos (lenB_true hl)] at h
    exact .inl ⟨rfl, h⟩
  · rw [asLen, if_neg (lenB_false hl)] at h
    exact .inr ⟨by decide, rfl, h⟩
theorem part_ends (x n d q r Q R v er : Int) (x0 : -9223372036854775808 ≤ x) (x1 : x ≤ 9223372036854775807) (n0 : -9223372036854775808 ≤ n) (n1 : n ≤ 9223372036854775807) (d0 : -9223372036854775808 ≤ d) (d1 : d ≤ 9223372036854775807) (F : DF (x * n) d q r Q R) (ht : Tl q v er) (w : World) :
    Calls Try.prog 57 #[.int .i64 x, .int .i64 n, .int .i64 d] w fun e w' => Ends v er e ∧ Below w.heap.size w w' := by
  refine (fpart_any x n d q r x0 x1 n0 n1 d0 d1 F.dz (by have := F.er; omega) F.rr w).mono ?_
  rintro e w' ⟨h, hb⟩
  exact ⟨ends_of ht h, hb⟩
/-- two arrays of the same three numbers are the same -/
theorem arr3_eql (a b c : Int) (w : World) : (binOp BinOp.eql 43 (.agg #[.int .i64 a, .int .i64 b, .int .i64 c]) (.agg #[.int .i64 a, .int .i64 b, .int .i64 c])).run Try.prog w = .ok (.bool true) w := by
  obtain ⟨i, hi, hc⟩ : ∃ i, Try.prog.info? 2 = some i ∧ Try.prog.cellsOf 2 = 1 := by
    cases h : Try.prog.info? 2 with
    | none =>
      have : (Try.prog.info? 2).isSome = true := by kernel_rfl
      rw [h] at this
      cases this
    | some i => exact ⟨i, rfl, by kernel_rfl⟩
  rw [run_eql_struct, run_equalIn_array w 9999 _ _ (P := Try.prog) (t := 43) (e := 2) (n := 3) (by kernel_rfl) hi, hc]
  have hu : Try.prog.underlying 2 = some (.int .i64) := by kernel_rfl
  simp [Op.eqItems, List.range, List.range.loop, part, run_equalIn_int w _ _ _ _ _ _ hu, go_sem]
end Go.Proofs.Ytmelbgabiklojaa
