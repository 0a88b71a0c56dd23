/- RectMoves: for any four ints as a rectangle and any four distances the law returns true, and its arguments read as they did. No condition. -/
import Derived.Test.YtlkpegfbnmecpaaLawRect2
import Derived.Test.YtlkpegfbnmecpaaLawKit
import Derived.Test.YtlkpegfbnmecpaaJoinA
namespace Go.Proofs.Ytlkpegfbnmecpaa.rectMoves
open Go.ChangeShapes Go.WideShapes Go.ChangeAt Go.RowKit Go.WideMaps
set_option linter.unusedVariables false
theorem arr4 : ArrKey Try.prog 38 3 4 := ⟨Try.underlying38, by kernel_rfl, by kernel_rfl, by kernel_rfl⟩
set_option maxRecDepth 100000 in
theorem lifted (os : Os) (started : os.Started) (H : Type) (enc : TypeId × Value → H) :
    ReturnsInHanded {} Try.checked os 8 .any (Rows.rectMovesSpec.pre6 enc Try.prog Try.f8 Rows.rectMovesRow.domain false) (Rows.rectMovesSpec.post enc Try.prog Try.f8 false true false false) := by
  refine returnsInHanded_of_change (C := Try.checked) Try.own started (by kernel_rfl) Try.func8
    (ChangeSpec.witness6 (enc := enc) (C := Try.checked) false ⟨#[], #[.agg #[.int .i64 0, .int .i64 0, .int .i64 0, .int .i64 0], .agg #[.int .i64 0, .int .i64 0, .int .i64 0, .int .i64 0]], []⟩ 8 (by kernel_rfl) (by kernel_rfl) (by kernel_rfl) (by kernel_rfl)) ?_
  intro W base args ds gs before hval0 hW hcnd _
  have hval : ∀ (j : Nat) t v, Try.f8.params[j]? = some t → args[j]? = some v → Value.okWide Try.prog W .any base t v := hval0
  have hW' := hW
  obtain ⟨p, q, hA0, hV, rfl, hfz, hnd⟩ := hW
  have hA : DataW.TrodAll enc Try.prog W 0 (fun _ => true) true Try.f8.params.toList args.toList ds p := hA0
  obtain ⟨rfl, rfl⟩ := trodVars_none hV
  have hAk := hA
  rw [Try.params8] at hA hval
  obtain ⟨v0, vs0, d0, ds0, p0, q0, hargs, rfl, rfl, h0, r0⟩ := trodAll_cons hA
  obtain ⟨v1, vs1, d1, ds1, p1, q1, rfl, rfl, rfl, h1, r1⟩ := trodAll_cons r0
  obtain ⟨rfl, rfl, rfl⟩ := trodAll_nil r1
  obtain rfl : args = #[v0, v1] := by cases args; simp_all
  obtain ⟨a, b, c, d, rfl, rfl, wa, wb, wc, wd⟩ := open_quad arr4 Try.underlying3 (hval 0 38 v0 rfl rfl) h0
  have ka := bounds_i64 wa
  have kb := bounds_i64 wb
  have kc := bounds_i64 wc
  have kd := bounds_i64 wd
  obtain ⟨e, f, g, h, rfl, rfl, we, wf, wg, wh⟩ := open_quad arr4 Try.underlying3 (hval 1 38 v1 rfl rfl) h1
  have ke := bounds_i64 we
  have kf := bounds_i64 wf
  have kg := bounds_i64 wg
  have kh := bounds_i64 wh
  clear hA0 hval0
  simp only [List.append_nil] at hW' hAk
  refine (law_moves a b c d e f g h ka kb kc kd ke kf kg kh W).mono fun e W' ⟨he, hb⟩ => ?_
  subst he
  exact ⟨_, rfl, law_post rfl rfl Try.underlying4 hW' hAk (of_decide_eq_true (by kernel_rfl)) rfl rfl rfl hb⟩

/-- The statement. -/
theorem proved : Rows.RectMovesSaid :=
  OpenClaim.holds_of_wide 8 Try.f8 rfl rfl rfl rfl rfl rfl rfl ⟨rfl, rfl, rfl, rfl, rfl⟩ rfl rfl rfl rfl rfl (by kernel_rfl) Try.func8 (by kernel_rfl)
    (of_decide_eq_true (by kernel_rfl)) (by unfold Func.isWrapper; first | (rw [if_pos (by decide +kernel)]; kernel_rfl) | (rw [if_neg (by decide +kernel)]; exact ⟨rfl, rfl⟩))
    (fun os started H enc _ => lifted os started H enc)
#print axioms proved
end Go.Proofs.Ytlkpegfbnmecpaa.rectMoves
