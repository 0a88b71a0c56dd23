/- LineStands: for any small items, any uint16 and any uint8 the law returns true, and its arguments read as they did. No condition. -/
import Derived.Test.YtmelbgabiklojaaStaB
import Derived.Test.YtmelbgabiklojaaLawKit
import Derived.Test.YtmelbgabiklojaaJoinB
import Derived.Test.YtmelbgabiklojaaJoinK
import Derived.Lib.SmallJoins
import Derived.Deep.Slices
import Derived.Deep.Strs
namespace Go.Proofs.Ytmelbgabiklojaa.lineStands
open Go.ChangeShapes Go.WideShapes Go.ChangeAt Go.RowKit Go.Joins Go.Deep
set_option linter.unusedVariables false
set_option linter.unusedSimpArgs false
set_option maxRecDepth 100000 in
theorem lifted (os : Os) (started : os.Started) (H : Type) (enc : TypeId × Value → H) :
    ReturnsInHanded {} Try.checked os 4 .any (Rows.lineStandsSpec.pre6 enc Try.prog Try.f4 Rows.lineStandsRow.domain false) (Rows.lineStandsSpec.post enc Try.prog Try.f4 false true false false) := by
  refine returnsInHanded_of_change (C := Try.checked) Try.own started (by kernel_rfl) Try.func4
    (ChangeSpec.witness6 (enc := enc) (C := Try.checked) false ⟨#[], #[.slice none 0 0, .int .u16 0, .int .u8 0], []⟩ 8 (by kernel_rfl) (by kernel_rfl) (by kernel_rfl) (by kernel_rfl)) ?_
  intro W base args ds gs before hval0 hW hcnd _
  have hval : ∀ (j : Nat) t v, Try.f4.params[j]? = some t → args[j]? = some v → Value.okWide Try.prog W .any base t v := hval0
  have hW' := hW
  obtain ⟨p, q, hA0, hV, rfl, hfz, hnd⟩ := hW
  have hA : DataW.TrodAll enc Try.prog W 0 (fun _ => true) true Try.f4.params.toList args.toList ds p := hA0
  obtain ⟨rfl, rfl⟩ := trodVars_none hV
  have hAk := hA
  rw [Try.params4] at hA hval
  obtain ⟨v0, vs0, d0, ds0, p0, q0, hargs, rfl, rfl, h0, r0⟩ := trodAll_cons hA
  obtain ⟨v1, vs1, d1, ds1, p1, q1, rfl, rfl, rfl, h1, r1⟩ := trodAll_cons r0
  obtain ⟨v2, vs2, d2, ds2, p2, q2, rfl, rfl, rfl, h2, r2⟩ := trodAll_cons r1
  obtain ⟨rfl, rfl, rfl⟩ := trodAll_nil r2
  obtain rfl : args = #[v0, v1, v2] := by cases args; simp_all
  obtain ⟨sxs, lenxs, capxs, rfl⟩ := okWide_slice Try.underlying22 (hval 0 22 v0 rfl rfl)
  have elxs : ∀ (n : Nat) (cs : List Value) (x : DataW H × List MemPlace), DataW.trod enc Try.prog W 0 (fun _ => true) true n 61 cs = some x → ∃ r, cs = SmK.cs r ∧ InS r := by
    intro n cs x h
    have hcbool : Try.prog.cellsOf 4 = 1 := by kernel_rfl
    have hcuint16 : Try.prog.cellsOf 23 = 1 := by kernel_rfl
    have hcT : Try.prog.cellsOf 61 = 3 := by kernel_rfl
    obtain ⟨y0, y1, y2, n1, _, hl, t0, t1, t2⟩ := trod_struct3 Try.underlying61 h
    rw [hcT] at hl
    match cs, hl with
    | [u0, u1, u2], _ =>
      simp only [hcbool, hcuint16, List.drop_zero, List.drop_succ_cons, List.take_succ_cons, List.take_zero] at t0 t1 t2
      obtain ⟨z0, e0, _, w0⟩ := DataW.trod_int Try.underlying23 t0
      obtain ⟨z1, e1, _, w1⟩ := DataW.trod_int Try.underlying23 t1
      obtain ⟨z2, e2, _⟩ := DataW.trod_bool Try.underlying4 t2
      simp at e0 e1 e2
      subst e0 e1 e2
      exact ⟨(z0, z1, z2), rfl, bounds_u16 w0, bounds_u16 w1⟩
  obtain ⟨xs, Kxs, Ixs⟩ := open_recs SmK InS Try.underlying22 (by kernel_rfl) (by decide) elxs h0
  obtain ⟨av, rfl, rfl, rfl, wav⟩ := open_int Try.underlying23 (hval 1 23 v1 rfl rfl) h1
  have kav := bounds_u16 wav
  obtain ⟨mo, rfl, rfl, rfl, wmo⟩ := open_int Try.underlying5 (hval 2 5 v2 rfl rfl) h2
  have kmo := bounds_u8 wmo
  clear hA0 hval0
  simp only [List.append_nil] at hW' hAk
  refine (law_stands sxs lenxs capxs xs av mo kav kmo W Kxs Ixs).mono fun e W' ⟨he, hb⟩ => ?_
  subst he
  exact ⟨_, rfl, law_post rfl rfl Try.underlying4 hW' hAk (of_decide_eq_true (by kernel_rfl)) rfl rfl rfl hb⟩

/-- The statement. -/
theorem proved : Rows.LineStandsSaid :=
  OpenClaim.holds_of_wide 4 Try.f4 rfl rfl rfl rfl rfl rfl rfl ⟨rfl, rfl, rfl, rfl, rfl⟩ rfl rfl rfl rfl rfl (by kernel_rfl) Try.func4 (by kernel_rfl)
    (of_decide_eq_true (by kernel_rfl)) (by unfold Func.isWrapper; first | (rw [if_pos (by decide +kernel)]; kernel_rfl) | (rw [if_neg (by decide +kernel)]; exact ⟨rfl, rfl⟩))
    (fun os started H enc _ => lifted os started H enc)
#print axioms proved
end Go.Proofs.Ytmelbgabiklojaa.lineStands
