/- WidthEquation: for any seven int64 and four bools (a struct In) the law returns true, and its argument reads as it did. No condition. -/
import Derived.Test.YtmelbgabiklojaaWidG
import Derived.Test.YtmelbgabiklojaaLawKit
import Derived.Test.YtmelbgabiklojaaJoinV
import Derived.Lib.SmallJoins
namespace Go.Proofs.Ytmelbgabiklojaa.widthEquation
open Go.ChangeShapes Go.WideShapes Go.ChangeAt Go.RowKit Go.Joins
set_option linter.unusedVariables false
set_option linter.unusedSimpArgs false
set_option maxRecDepth 100000 in
theorem lifted (os : Os) (started : os.Started) (H : Type) (enc : TypeId × Value → H) :
    ReturnsInHanded {} Try.checked os 6 .any (Rows.widthEquationSpec.pre6 enc Try.prog Try.f6 Rows.widthEquationRow.domain false) (Rows.widthEquationSpec.post enc Try.prog Try.f6 false true false false) := by
  refine returnsInHanded_of_change (C := Try.checked) Try.own started (by kernel_rfl) Try.func6
    (ChangeSpec.witness6 (enc := enc) (C := Try.checked) false ⟨#[], #[.agg #[.int .i64 0, .int .i64 0, .bool false, .int .i64 0, .int .i64 0, .bool false, .bool false, .int .i64 0, .int .i64 0, .int .i64 0, .bool false]], []⟩ 8 (by kernel_rfl) (by kernel_rfl) (by kernel_rfl) (by kernel_rfl)) ?_
  intro W base args ds gs before hval0 hW hcnd _
  have hval : ∀ (j : Nat) t v, Try.f6.params[j]? = some t → args[j]? = some v → Value.okWide Try.prog W .any base t v := hval0
  have hW' := hW
  obtain ⟨p, q, hA0, hV, rfl, hfz, hnd⟩ := hW
  have hA : DataW.TrodAll enc Try.prog W 0 (fun _ => true) true Try.f6.params.toList args.toList ds p := hA0
  obtain ⟨rfl, rfl⟩ := trodVars_none hV
  have hAk := hA
  rw [Try.params6] at hA hval
  obtain ⟨v0, vs0, d0, ds0, p0, q0, hargs, rfl, rfl, h0, r0⟩ := trodAll_cons hA
  obtain ⟨rfl, rfl, rfl⟩ := trodAll_nil r0
  obtain rfl : args = #[v0] := by cases args; simp_all
  obtain ⟨c0_0, c0_1, c0_2, c0_3, c0_4, c0_5, c0_6, c0_7, c0_8, c0_9, c0_10, y0_0, y0_1, y0_2, y0_3, y0_4, y0_5, y0_6, y0_7, y0_8, y0_9, y0_10, m0, rfl, rfl, rfl, hy0_0, hy0_1, hy0_2, hy0_3, hy0_4, hy0_5, hy0_6, hy0_7, hy0_8, hy0_9, hy0_10⟩ := open_agg11 Try.underlying41 (by kernel_rfl) (by kernel_rfl) (hval 0 41 v0 rfl rfl) h0
  obtain ⟨xA, e0_0, rfl, wxA⟩ := DataW.trod_int Try.underlying2 hy0_0
  obtain ⟨xW, e0_1, rfl, wxW⟩ := DataW.trod_int Try.underlying2 hy0_1
  obtain ⟨xa, e0_2, rfl⟩ := DataW.trod_bool Try.underlying4 hy0_2
  obtain ⟨xL, e0_3, rfl, wxL⟩ := DataW.trod_int Try.underlying2 hy0_3
  obtain ⟨xR, e0_4, rfl, wxR⟩ := DataW.trod_int Try.underlying2 hy0_4
  obtain ⟨xal, e0_5, rfl⟩ := DataW.trod_bool Try.underlying4 hy0_5
  obtain ⟨xar, e0_6, rfl⟩ := DataW.trod_bool Try.underlying4 hy0_6
  obtain ⟨xE, e0_7, rfl, wxE⟩ := DataW.trod_int Try.underlying2 hy0_7
  obtain ⟨xLo, e0_8, rfl, wxLo⟩ := DataW.trod_int Try.underlying2 hy0_8
  obtain ⟨xHi, e0_9, rfl, wxHi⟩ := DataW.trod_int Try.underlying2 hy0_9
  obtain ⟨xbd, e0_10, rfl⟩ := DataW.trod_bool Try.underlying4 hy0_10
  simp at e0_0 e0_1 e0_2 e0_3 e0_4 e0_5 e0_6 e0_7 e0_8 e0_9 e0_10
  subst e0_0 e0_1 e0_2 e0_3 e0_4 e0_5 e0_6 e0_7 e0_8 e0_9 e0_10
  have kxA := bounds_i64 wxA
  have kxW := bounds_i64 wxW
  have kxL := bounds_i64 wxL
  have kxR := bounds_i64 wxR
  have kxE := bounds_i64 wxE
  have kxLo := bounds_i64 wxLo
  have kxHi := bounds_i64 wxHi
  clear hA0 hval0
  simp only [List.append_nil] at hW' hAk
  refine (law_widthequation xA xW xL xR xE xLo xHi xa xal xar xbd kxA kxW kxL kxR kxE kxLo kxHi W).mono fun e W' ⟨he, hb⟩ => ?_
  subst he
  exact ⟨_, rfl, law_post rfl rfl Try.underlying4 hW' hAk (of_decide_eq_true (by kernel_rfl)) rfl rfl rfl hb⟩

/-- The statement. -/
theorem proved : Rows.WidthEquationSaid :=
  OpenClaim.holds_of_wide 6 Try.f6 rfl rfl rfl rfl rfl rfl rfl ⟨rfl, rfl, rfl, rfl, rfl⟩ rfl rfl rfl rfl rfl (by kernel_rfl) Try.func6 (by kernel_rfl)
    (of_decide_eq_true (by kernel_rfl)) (by unfold Func.isWrapper; first | (rw [if_pos (by decide +kernel)]; kernel_rfl) | (rw [if_neg (by decide +kernel)]; exact ⟨rfl, rfl⟩))
    (fun os started H enc _ => lifted os started H enc)
#print axioms proved
end Go.Proofs.Ytmelbgabiklojaa.widthEquation
