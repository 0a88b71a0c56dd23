/- LineOffsets: for any items, any line, any room and any way the text stands the law returns true, and its argument reads as it did. No condition. -/
import Derived.Test.YtbolifjkhoiphaaLinMR
import Derived.Test.YtbolifjkhoiphaaLawKit
import Derived.Test.YtbolifjkhoiphaaJoinB
import Derived.Test.YtbolifjkhoiphaaJoinK
import Derived.Test.YtbolifjkhoiphaaJoinS
import Derived.Lib.SmallJoins
import Derived.Deep.Slices
import Derived.Deep.Strs
namespace Go.Proofs.Ytbolifjkhoiphaa.lineOffsets
open Go.ChangeShapes Go.WideShapes Go.ChangeAt Go.RowKit Go.Joins Go.Deep
set_option linter.unusedVariables false
set_option linter.unusedSimpArgs false
set_option maxRecDepth 100000 in
theorem lifted (os : Os) (started : os.Started) (H : Type) (enc : TypeId × Value → H) :
    ReturnsInHanded {} Try.checked os 4 .any (Rows.lineOffsetsSpec.pre6 enc Try.prog Try.f4 Rows.lineOffsetsRow.domain false) (Rows.lineOffsetsSpec.post enc Try.prog Try.f4 false true false false) := by
  refine returnsInHanded_of_change (C := Try.checked) Try.own started (by kernel_rfl) Try.func4
    (ChangeSpec.witness6 (enc := enc) (C := Try.checked) false ⟨#[], #[.agg #[.slice none 0 0, .int .i64 0, .int .i64 0, .int .i64 0, .int .i64 0, .int .i64 0]], []⟩ 8 (by kernel_rfl) (by kernel_rfl) (by kernel_rfl) (by kernel_rfl)) ?_
  intro W base args ds gs before hval0 hW hcnd _
  have hval : ∀ (j : Nat) t v, Try.f4.params[j]? = some t → args[j]? = some v → Value.okWide Try.prog W .any base t v := hval0
  have hW' := hW
  obtain ⟨p, q, hA0, hV, rfl, hfz, hnd⟩ := hW
  have hA : DataW.TrodAll enc Try.prog W 0 (fun _ => true) true Try.f4.params.toList args.toList ds p := hA0
  obtain ⟨rfl, rfl⟩ := trodVars_none hV
  have hAk := hA
  rw [Try.params4] at hA hval
  obtain ⟨v0, vs0, d0, ds0, p0, q0, hargs, rfl, rfl, h0, r0⟩ := trodAll_cons hA
  obtain ⟨rfl, rfl, rfl⟩ := trodAll_nil r0
  obtain rfl : args = #[v0] := by cases args; simp_all
  obtain ⟨c0, c1, c2, c3, c4, c5, y0, y1, y2, y3, y4, y5, m0, rfl, rfl, rfl, hy0, hy1, hy2, hy3, hy4, hy5⟩ := open_agg6 Try.underlying44 (by kernel_rfl) (by kernel_rfl) (hval 0 44 v0 rfl rfl) h0
  obtain ⟨zF, e1, rfl, wzF⟩ := DataW.trod_int Try.underlying3 hy1
  obtain ⟨zT, e2, rfl, wzT⟩ := DataW.trod_int Try.underlying3 hy2
  obtain ⟨zX, e3, rfl, wzX⟩ := DataW.trod_int Try.underlying2 hy3
  obtain ⟨zA, e4, rfl, wzA⟩ := DataW.trod_int Try.underlying2 hy4
  obtain ⟨zt, e5, rfl, wzt⟩ := DataW.trod_int Try.underlying3 hy5
  simp at e1 e2 e3 e4 e5
  subst e1 e2 e3 e4 e5
  have kX := bounds_i64 wzX
  have kA := bounds_i64 wzA
  obtain ⟨sxs, lenxs, capxs, rfl⟩ : ∃ s len cap, c0 = .slice s len cap := by
    rcases open_slice Try.underlying22 hy0 with ⟨hcs, _⟩ | ⟨a, len', cap', m, n, D, Pl, hcs, _⟩
    · simp at hcs; exact ⟨_, _, _, hcs⟩
    · simp at hcs; exact ⟨_, _, _, hcs⟩
  have h0' : DataW.Trod enc Try.prog W 0 (fun _ => true) true 22 (.slice sxs lenxs capxs) y0.1 y0.2 := ⟨m0, by simpa [Value.cells] using hy0⟩
  have elxs : ∀ (n : Nat) (cs : List Value) (x : DataW H × List MemPlace), DataW.trod enc Try.prog W 0 (fun _ => true) true n 89 cs = some x → ∃ r, cs = IK.cs r ∧ InI r := by
    intro n cs x h
    have hcbool : Try.prog.cellsOf 4 = 1 := by kernel_rfl
    have hcint64 : Try.prog.cellsOf 2 = 1 := by kernel_rfl
    have hcT : Try.prog.cellsOf 89 = 4 := by kernel_rfl
    obtain ⟨y0, y1, y2, y3, n1, _, hl, t0, t1, t2, t3⟩ := trod_struct4 Try.underlying89 h
    rw [hcT] at hl
    match cs, hl with
    | [u0, u1, u2, u3], _ =>
      simp only [hcbool, hcint64, List.drop_zero, List.drop_succ_cons, List.take_succ_cons, List.take_zero] at t0 t1 t2 t3
      obtain ⟨z0, e0, _, w0⟩ := DataW.trod_int Try.underlying2 t0
      obtain ⟨z1, e1, _, w1⟩ := DataW.trod_int Try.underlying2 t1
      obtain ⟨z2, e2, _, w2⟩ := DataW.trod_int Try.underlying2 t2
      obtain ⟨z3, e3, _⟩ := DataW.trod_bool Try.underlying4 t3
      simp at e0 e1 e2 e3
      subst e0 e1 e2 e3
      exact ⟨(z0, z1, z2, z3), rfl, bounds_i64 w0, bounds_i64 w1, bounds_i64 w2⟩
  obtain ⟨xs, Kxs, Ixs⟩ := open_recs IK InI Try.underlying22 (by kernel_rfl) (by decide) elxs h0'
  clear hA0 hval0
  simp only [List.append_nil] at hW' hAk
  refine (law_offsets sxs lenxs capxs xs zF zT zX zA zt kX kA W Kxs Ixs).mono fun e W' ⟨he, hb⟩ => ?_
  subst he
  exact ⟨_, rfl, law_post rfl rfl Try.underlying4 hW' hAk (of_decide_eq_true (by kernel_rfl)) rfl rfl rfl hb⟩

/-- The statement. -/
theorem proved : Rows.LineOffsetsSaid :=
  OpenClaim.holds_of_wide 4 Try.f4 rfl rfl rfl rfl rfl rfl rfl ⟨rfl, rfl, rfl, rfl, rfl⟩ rfl rfl rfl rfl rfl (by kernel_rfl) Try.func4 (by kernel_rfl)
    (of_decide_eq_true (by kernel_rfl)) (by unfold Func.isWrapper; first | (rw [if_pos (by decide +kernel)]; kernel_rfl) | (rw [if_neg (by decide +kernel)]; exact ⟨rfl, rfl⟩))
    (fun os started H enc _ => lifted os started H enc)
#print axioms proved
end Go.Proofs.Ytbolifjkhoiphaa.lineOffsets
