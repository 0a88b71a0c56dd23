/- RegionFar: for any eight ints and any two the law returns true, and its arguments read as they did. No condition. -/
import Derived.Test.YtfhepaiefdmlcaaLawFar
import Derived.Test.YtfhepaiefdmlcaaLawKit
import Derived.Test.YtfhepaiefdmlcaaJoinB
namespace Go.Proofs.Ytfhepaiefdmlcaa.regionFar
open Go.ChangeShapes Go.WideShapes Go.ChangeAt Go.RowKit Go.WideMaps
set_option linter.unusedVariables false
theorem arr4 : ArrKey Try.prog 30 3 4 := ⟨Try.underlying30, by kernel_rfl, by kernel_rfl, by kernel_rfl⟩
theorem arr2 : ArrKey Try.prog 48 3 2 := ⟨Try.underlying48, by kernel_rfl, by kernel_rfl, by kernel_rfl⟩
set_option maxRecDepth 100000 in
theorem lifted (os : Os) (started : os.Started) (H : Type) (enc : TypeId × Value → H) :
    ReturnsInHanded {} Try.checked os 4 .any (Rows.regionFarSpec.pre6 enc Try.prog Try.f4 Rows.regionFarRow.domain false) (Rows.regionFarSpec.post enc Try.prog Try.f4 false true false false) := by
  refine returnsInHanded_of_change (C := Try.checked) Try.own started (by kernel_rfl) Try.func4
    (ChangeSpec.witness6 (enc := enc) (C := Try.checked) false ⟨#[], #[.agg #[.int .i64 0, .int .i64 0, .int .i64 0, .int .i64 0], .agg #[.int .i64 0, .int .i64 0, .int .i64 0, .int .i64 0], .agg #[.int .i64 0, .int .i64 0]], []⟩ 8 (by kernel_rfl) (by kernel_rfl) (by kernel_rfl) (by kernel_rfl)) ?_
  intro W base args ds gs before hval0 hW hcnd _
  have hval : ∀ (j : Nat) t v, Try.f4.params[j]? = some t → args[j]? = some v → Value.okWide Try.prog W .any base t v := hval0
  have hW' := hW
  obtain ⟨p, q, hA0, hV, rfl, hfz, hnd⟩ := hW
  have hA : DataW.TrodAll enc Try.prog W 0 (fun _ => true) true Try.f4.params.toList args.toList ds p := hA0
  obtain ⟨rfl, rfl⟩ := trodVars_none hV
  have hAk := hA
  rw [Try.params4] at hA hval
  obtain ⟨v0, vs0, d0, ds0, p0, q0, hargs, rfl, rfl, h0, r0⟩ := trodAll_cons hA
  obtain ⟨v1, vs1, d1, ds1, p1, q1, rfl, rfl, rfl, h1, r1⟩ := trodAll_cons r0
  obtain ⟨v2, vs2, d2, ds2, p2, q2, rfl, rfl, rfl, h2, r2⟩ := trodAll_cons r1
  obtain ⟨rfl, rfl, rfl⟩ := trodAll_nil r2
  obtain rfl : args = #[v0, v1, v2] := by cases args; simp_all
  obtain ⟨a, b, c, d, rfl, rfl, wa, wb, wc, wd⟩ := open_quad arr4 Try.underlying3 (hval 0 30 v0 rfl rfl) h0
  have ka := bounds_i64 wa
  have kb := bounds_i64 wb
  have kc := bounds_i64 wc
  have kd := bounds_i64 wd
  obtain ⟨e, f, g, h, rfl, rfl, we, wf, wg, wh⟩ := open_quad arr4 Try.underlying3 (hval 1 30 v1 rfl rfl) h1
  have ke := bounds_i64 we
  have kf := bounds_i64 wf
  have kg := bounds_i64 wg
  have kh := bounds_i64 wh
  obtain ⟨x, y, rfl, rfl, rfl, wx, wy⟩ := open_pair arr2 Try.underlying3 (hval 2 48 v2 rfl rfl) h2
  have kx := bounds_i64 wx
  have ky := bounds_i64 wy
  clear hA0 hval0
  simp only [List.append_nil] at hW' hAk
  refine (law_far a b c d e f g h x y ka kb kc kd ke kf kg kh kx ky W).mono fun e W' ⟨he, hb⟩ => ?_
  subst he
  exact ⟨_, rfl, law_post rfl rfl Try.underlying4 hW' hAk (of_decide_eq_true (by kernel_rfl)) rfl rfl rfl hb⟩

/-- The statement. -/
theorem proved : Rows.RegionFarSaid :=
  OpenClaim.holds_of_wide 4 Try.f4 rfl rfl rfl rfl rfl rfl rfl ⟨rfl, rfl, rfl, rfl, rfl⟩ rfl rfl rfl rfl rfl (by kernel_rfl) Try.func4 (by kernel_rfl)
    (of_decide_eq_true (by kernel_rfl)) (by unfold Func.isWrapper; first | (rw [if_pos (by decide +kernel)]; kernel_rfl) | (rw [if_neg (by decide +kernel)]; exact ⟨rfl, rfl⟩))
    (fun os started H enc _ => lifted os started H enc)
#print axioms proved
end Go.Proofs.Ytfhepaiefdmlcaa.regionFar
