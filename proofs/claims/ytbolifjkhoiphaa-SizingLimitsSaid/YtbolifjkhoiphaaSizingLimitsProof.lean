/- SizingLimits: for any two values, any base, scale, edges and flags and any size the law returns true, and its arguments read as they did. No condition. -/
import Derived.Test.YtbolifjkhoiphaaSizG
import Derived.Test.YtbolifjkhoiphaaLawKit
import Derived.Test.YtbolifjkhoiphaaJoinS
import Derived.Lib.SmallJoins
namespace Go.Proofs.Ytbolifjkhoiphaa.sizingLimits
open Go.ChangeShapes Go.WideShapes Go.ChangeAt Go.RowKit Go.Joins
set_option linter.unusedVariables false
set_option linter.unusedSimpArgs false
set_option maxRecDepth 100000 in
theorem lifted (os : Os) (started : os.Started) (H : Type) (enc : TypeId × Value → H) :
    ReturnsInHanded {} Try.checked os 8 .any (Rows.sizingLimitsSpec.pre6 enc Try.prog Try.f8 Rows.sizingLimitsRow.domain false) (Rows.sizingLimitsSpec.post enc Try.prog Try.f8 false true false false) := by
  refine returnsInHanded_of_change (C := Try.checked) Try.own started (by kernel_rfl) Try.func8
    (ChangeSpec.witness6 (enc := enc) (C := Try.checked) false ⟨#[], #[.agg #[.int .i64 0, .int .i64 0, .int .i64 0, .int .i64 0], .agg #[.int .i64 0, .int .i64 0, .int .i64 0, .int .i64 0, .bool false, .bool false], .int .i64 0], []⟩ 8 (by kernel_rfl) (by kernel_rfl) (by kernel_rfl) (by kernel_rfl)) ?_
  intro W base args ds gs before hval0 hW hcnd _
  have hval : ∀ (j : Nat) t v, Try.f8.params[j]? = some t → args[j]? = some v → Value.okWide Try.prog W .any base t v := hval0
  have hW' := hW
  obtain ⟨p, q, hA0, hV, rfl, hfz, hnd⟩ := hW
  have hA : DataW.TrodAll enc Try.prog W 0 (fun _ => true) true Try.f8.params.toList args.toList ds p := hA0
  obtain ⟨rfl, rfl⟩ := trodVars_none hV
  have hAk := hA
  rw [Try.params8] at hA hval
  obtain ⟨v0, vs0, d0, ds0, p0, q0, hargs, rfl, rfl, h0, r0⟩ := trodAll_cons hA
  obtain ⟨v1, vs1, d1, ds1, p1, q1, rfl, rfl, rfl, h1, r1⟩ := trodAll_cons r0
  obtain ⟨v2, vs2, d2, ds2, p2, q2, rfl, rfl, rfl, h2, r2⟩ := trodAll_cons r1
  obtain ⟨rfl, rfl, rfl⟩ := trodAll_nil r2
  obtain rfl : args = #[v0, v1, v2] := by cases args; simp_all
  obtain ⟨xa, xn, xc, xd, rfl, rfl, wxa, wxn, wxc, wxd⟩ := open_two2 (r := .any) (b0 := 0) (k := 77) (e := 59) Try.underlying77 (by kernel_rfl) (by kernel_rfl) Try.underlying59 (by kernel_rfl) Try.underlying3 Try.underlying2 (by
    have h := hval 0 77 v0 rfl rfl
    simp only [Value.okWide, Try.underlying77] at h
    obtain ⟨cs, h1, h2, _⟩ := h
    exact ⟨cs, h1, by rw [h2]; kernel_rfl⟩) h0
  have kxa := bounds_i64 wxa
  have kxn := bounds_i64 wxn
  have kxc := bounds_i64 wxc
  have kxd := bounds_i64 wxd
  obtain ⟨c1_0, c1_1, c1_2, c1_3, c1_4, c1_5, y1_0, y1_1, y1_2, y1_3, y1_4, y1_5, m1, rfl, rfl, rfl, hy1_0, hy1_1, hy1_2, hy1_3, hy1_4, hy1_5⟩ := open_agg6 Try.underlying61 (by kernel_rfl) (by kernel_rfl) (hval 1 61 v1 rfl rfl) h1
  obtain ⟨xb, e1_0, rfl, wxb⟩ := DataW.trod_int Try.underlying2 hy1_0
  obtain ⟨xp, e1_1, rfl, wxp⟩ := DataW.trod_int Try.underlying2 hy1_1
  obtain ⟨xq, e1_2, rfl, wxq⟩ := DataW.trod_int Try.underlying2 hy1_2
  obtain ⟨xg, e1_3, rfl, wxg⟩ := DataW.trod_int Try.underlying2 hy1_3
  obtain ⟨kn, e1_4, rfl⟩ := DataW.trod_bool Try.underlying4 hy1_4
  obtain ⟨wh, e1_5, rfl⟩ := DataW.trod_bool Try.underlying4 hy1_5
  simp at e1_0 e1_1 e1_2 e1_3 e1_4 e1_5
  subst e1_0 e1_1 e1_2 e1_3 e1_4 e1_5
  have kxb := bounds_i64 wxb
  have kxp := bounds_i64 wxp
  have kxq := bounds_i64 wxq
  have kxg := bounds_i64 wxg
  obtain ⟨xm, rfl, rfl, rfl, wxm⟩ := open_int Try.underlying2 (hval 2 2 v2 rfl rfl) h2
  have kxm := bounds_i64 wxm
  clear hA0 hval0
  simp only [List.append_nil] at hW' hAk
  refine (law_limits xa xn xc xd xb xp xq xg xm kn wh kxa kxn kxc kxd kxb kxp kxq kxg kxm W).mono fun e W' ⟨he, hb⟩ => ?_
  subst he
  exact ⟨_, rfl, law_post rfl rfl Try.underlying4 hW' hAk (of_decide_eq_true (by kernel_rfl)) rfl rfl rfl hb⟩

/-- The statement. -/
theorem proved : Rows.SizingLimitsSaid :=
  OpenClaim.holds_of_wide 8 Try.f8 rfl rfl rfl rfl rfl rfl rfl ⟨rfl, rfl, rfl, rfl, rfl⟩ rfl rfl rfl rfl rfl (by kernel_rfl) Try.func8 (by kernel_rfl)
    (of_decide_eq_true (by kernel_rfl)) (by unfold Func.isWrapper; first | (rw [if_pos (by decide +kernel)]; kernel_rfl) | (rw [if_neg (by decide +kernel)]; exact ⟨rfl, rfl⟩))
    (fun os started H enc _ => lifted os started H enc)
#print axioms proved
end Go.Proofs.Ytbolifjkhoiphaa.sizingLimits
