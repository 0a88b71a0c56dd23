/- LineFills: for any items, any width and any lowest height the law returns true, and its arguments read as they did. No condition. -/
import Derived.Test.YtbolifjkhoiphaaLinL
import Derived.Test.YtbolifjkhoiphaaLawKit
import Derived.Test.YtbolifjkhoiphaaJoinB
import Derived.Test.YtbolifjkhoiphaaJoinK
import Derived.Lib.SmallJoins
import Derived.Deep.Slices
import Derived.Deep.Strs
namespace Go.Proofs.Ytbolifjkhoiphaa.lineFills
open Go.ChangeShapes Go.WideShapes Go.ChangeAt Go.RowKit Go.Joins Go.Deep
set_option linter.unusedVariables false
set_option linter.unusedSimpArgs false
set_option maxRecDepth 100000 in
theorem lifted (os : Os) (started : os.Started) (H : Type) (enc : TypeId × Value → H) :
    ReturnsInHanded {} Try.checked os 3 .any (Rows.lineFillsSpec.pre6 enc Try.prog Try.f3 Rows.lineFillsRow.domain false) (Rows.lineFillsSpec.post enc Try.prog Try.f3 false true false false) := by
  refine returnsInHanded_of_change (C := Try.checked) Try.own started (by kernel_rfl) Try.func3
    (ChangeSpec.witness6 (enc := enc) (C := Try.checked) false ⟨#[], #[.slice none 0 0, .int .i64 0, .int .i64 0], []⟩ 8 (by kernel_rfl) (by kernel_rfl) (by kernel_rfl) (by kernel_rfl)) ?_
  intro W base args ds gs before hval0 hW hcnd _
  have hval : ∀ (j : Nat) t v, Try.f3.params[j]? = some t → args[j]? = some v → Value.okWide Try.prog W .any base t v := hval0
  have hW' := hW
  obtain ⟨p, q, hA0, hV, rfl, hfz, hnd⟩ := hW
  have hA : DataW.TrodAll enc Try.prog W 0 (fun _ => true) true Try.f3.params.toList args.toList ds p := hA0
  obtain ⟨rfl, rfl⟩ := trodVars_none hV
  have hAk := hA
  rw [Try.params3] at hA hval
  obtain ⟨v0, vs0, d0, ds0, p0, q0, hargs, rfl, rfl, h0, r0⟩ := trodAll_cons hA
  obtain ⟨v1, vs1, d1, ds1, p1, q1, rfl, rfl, rfl, h1, r1⟩ := trodAll_cons r0
  obtain ⟨v2, vs2, d2, ds2, p2, q2, rfl, rfl, rfl, h2, r2⟩ := trodAll_cons r1
  obtain ⟨rfl, rfl, rfl⟩ := trodAll_nil r2
  obtain rfl : args = #[v0, v1, v2] := by cases args; simp_all
  obtain ⟨sxs, lenxs, capxs, rfl⟩ := okWide_slice Try.underlying22 (hval 0 22 v0 rfl rfl)
  have elxs : ∀ (n : Nat) (cs : List Value) (x : DataW H × List MemPlace), DataW.trod enc Try.prog W 0 (fun _ => true) true n 89 cs = some x → ∃ r, cs = IK.cs r ∧ InI r := by
    intro n cs x h
    have hcbool : Try.prog.cellsOf 4 = 1 := by kernel_rfl
    have hcint64 : Try.prog.cellsOf 2 = 1 := by kernel_rfl
    have hcT : Try.prog.cellsOf 89 = 4 := by kernel_rfl
    obtain ⟨y0, y1, y2, y3, n1, _, hl, t0, t1, t2, t3⟩ := trod_struct4 Try.underlying89 h
    rw [hcT] at hl
    match cs, hl with
    | [u0, u1, u2, u3], _ =>
      simp only [hcbool, hcint64, List.drop_zero, List.drop_succ_cons, List.take_succ_cons, List.take_zero] at t0 t1 t2 t3
      obtain ⟨z0, e0, _, w0⟩ := DataW.trod_int Try.underlying2 t0
      obtain ⟨z1, e1, _, w1⟩ := DataW.trod_int Try.underlying2 t1
      obtain ⟨z2, e2, _, w2⟩ := DataW.trod_int Try.underlying2 t2
      obtain ⟨z3, e3, _⟩ := DataW.trod_bool Try.underlying4 t3
      simp at e0 e1 e2 e3
      subst e0 e1 e2 e3
      exact ⟨(z0, z1, z2, z3), rfl, bounds_i64 w0, bounds_i64 w1, bounds_i64 w2⟩
  obtain ⟨xs, Kxs, Ixs⟩ := open_recs IK InI Try.underlying22 (by kernel_rfl) (by decide) elxs h0
  obtain ⟨av, rfl, rfl, rfl, wav⟩ := open_int Try.underlying2 (hval 1 2 v1 rfl rfl) h1
  have kav := bounds_i64 wav
  obtain ⟨lo, rfl, rfl, rfl, wlo⟩ := open_int Try.underlying2 (hval 2 2 v2 rfl rfl) h2
  have klo := bounds_i64 wlo
  clear hA0 hval0
  simp only [List.append_nil] at hW' hAk
  refine (law_fills sxs lenxs capxs xs av lo kav klo W Kxs Ixs).mono fun e W' ⟨he, hb⟩ => ?_
  subst he
  exact ⟨_, rfl, law_post rfl rfl Try.underlying4 hW' hAk (of_decide_eq_true (by kernel_rfl)) rfl rfl rfl hb⟩

/-- The statement. -/
theorem proved : Rows.LineFillsSaid :=
  OpenClaim.holds_of_wide 3 Try.f3 rfl rfl rfl rfl rfl rfl rfl ⟨rfl, rfl, rfl, rfl, rfl⟩ rfl rfl rfl rfl rfl (by kernel_rfl) Try.func3 (by kernel_rfl)
    (of_decide_eq_true (by kernel_rfl)) (by unfold Func.isWrapper; first | (rw [if_pos (by decide +kernel)]; kernel_rfl) | (rw [if_neg (by decide +kernel)]; exact ⟨rfl, rfl⟩))
    (fun os started H enc _ => lifted os started H enc)
#print axioms proved
end Go.Proofs.Ytbolifjkhoiphaa.lineFills
