/- SizingFits: for any four uint32 the law returns true, and its argument reads as it did. No condition. -/
import Derived.Test.YtbolifjkhoiphaaSizE
import Derived.Test.YtbolifjkhoiphaaLawKit
import Derived.Test.YtbolifjkhoiphaaJoinS
import Derived.Lib.SmallJoins
namespace Go.Proofs.Ytbolifjkhoiphaa.sizingFits
open Go.ChangeShapes Go.WideShapes Go.ChangeAt Go.RowKit Go.Joins
set_option linter.unusedVariables false
set_option linter.unusedSimpArgs false
set_option maxRecDepth 100000 in
theorem lifted (os : Os) (started : os.Started) (H : Type) (enc : TypeId × Value → H) :
    ReturnsInHanded {} Try.checked os 9 .any (Rows.sizingFitsSpec.pre6 enc Try.prog Try.f9 Rows.sizingFitsRow.domain false) (Rows.sizingFitsSpec.post enc Try.prog Try.f9 false true false false) := by
  refine returnsInHanded_of_change (C := Try.checked) Try.own started (by kernel_rfl) Try.func9
    (ChangeSpec.witness6 (enc := enc) (C := Try.checked) false ⟨#[], #[.agg #[.int .u32 0, .int .u32 0, .int .u32 0, .int .u32 0]], []⟩ 8 (by kernel_rfl) (by kernel_rfl) (by kernel_rfl) (by kernel_rfl)) ?_
  intro W base args ds gs before hval0 hW hcnd _
  have hval : ∀ (j : Nat) t v, Try.f9.params[j]? = some t → args[j]? = some v → Value.okWide Try.prog W .any base t v := hval0
  have hW' := hW
  obtain ⟨p, q, hA0, hV, rfl, hfz, hnd⟩ := hW
  have hA : DataW.TrodAll enc Try.prog W 0 (fun _ => true) true Try.f9.params.toList args.toList ds p := hA0
  obtain ⟨rfl, rfl⟩ := trodVars_none hV
  have hAk := hA
  rw [Try.params9] at hA hval
  obtain ⟨v0, vs0, d0, ds0, p0, q0, hargs, rfl, rfl, h0, r0⟩ := trodAll_cons hA
  obtain ⟨rfl, rfl, rfl⟩ := trodAll_nil r0
  obtain rfl : args = #[v0] := by cases args; simp_all
  obtain ⟨c0_0, c0_1, c0_2, c0_3, y0_0, y0_1, y0_2, y0_3, m0, rfl, rfl, rfl, hy0_0, hy0_1, hy0_2, hy0_3⟩ := open_agg4 Try.underlying86 (by kernel_rfl) (by kernel_rfl) (hval 0 86 v0 rfl rfl) h0
  obtain ⟨xa, e0_0, rfl, wxa⟩ := DataW.trod_int Try.underlying84 hy0_0
  obtain ⟨xd, e0_1, rfl, wxd⟩ := DataW.trod_int Try.underlying84 hy0_1
  obtain ⟨xl, e0_2, rfl, wxl⟩ := DataW.trod_int Try.underlying84 hy0_2
  obtain ⟨xm, e0_3, rfl, wxm⟩ := DataW.trod_int Try.underlying84 hy0_3
  simp at e0_0 e0_1 e0_2 e0_3
  subst e0_0 e0_1 e0_2 e0_3
  have kxa := bounds_u32 wxa
  have kxd := bounds_u32 wxd
  have kxl := bounds_u32 wxl
  have kxm := bounds_u32 wxm
  clear hA0 hval0
  simp only [List.append_nil] at hW' hAk
  refine (law_fits xa xd xl xm kxa kxd kxl kxm W).mono fun e W' ⟨he, hb⟩ => ?_
  subst he
  exact ⟨_, rfl, law_post rfl rfl Try.underlying4 hW' hAk (of_decide_eq_true (by kernel_rfl)) rfl rfl rfl hb⟩

/-- The statement. -/
theorem proved : Rows.SizingFitsSaid :=
  OpenClaim.holds_of_wide 9 Try.f9 rfl rfl rfl rfl rfl rfl rfl ⟨rfl, rfl, rfl, rfl, rfl⟩ rfl rfl rfl rfl rfl (by kernel_rfl) Try.func9 (by kernel_rfl)
    (of_decide_eq_true (by kernel_rfl)) (by unfold Func.isWrapper; first | (rw [if_pos (by decide +kernel)]; kernel_rfl) | (rw [if_neg (by decide +kernel)]; exact ⟨rfl, rfl⟩))
    (fun os started H enc _ => lifted os started H enc)
#print axioms proved
end Go.Proofs.Ytbolifjkhoiphaa.sizingFits
