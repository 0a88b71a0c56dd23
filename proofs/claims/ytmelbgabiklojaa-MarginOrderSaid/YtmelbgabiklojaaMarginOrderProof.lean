/- MarginOrder: for any list of int64 and any two uint8 the law returns true, and its arguments read as they did. No condition. -/
import Derived.Test.YtmelbgabiklojaaMarC
import Derived.Test.YtmelbgabiklojaaLawKit
namespace Go.Proofs.Ytmelbgabiklojaa.marginOrder
open Go.ChangeShapes Go.WideShapes Go.ChangeAt Go.RowKit
set_option linter.unusedVariables false
set_option maxRecDepth 100000 in
theorem lifted (os : Os) (started : os.Started) (H : Type) (enc : TypeId × Value → H) :
    ReturnsInHanded {} Try.checked os 9 .any (Rows.marginOrderSpec.pre6 enc Try.prog Try.f9 Rows.marginOrderRow.domain false) (Rows.marginOrderSpec.post enc Try.prog Try.f9 false true false false) := by
  refine returnsInHanded_of_change (C := Try.checked) Try.own started (by kernel_rfl) Try.func9
    (ChangeSpec.witness6 (enc := enc) (C := Try.checked) false ⟨#[], #[.slice none 0 0, .int .u8 0, .int .u8 0], []⟩ 8 (by kernel_rfl) (by kernel_rfl) (by kernel_rfl) (by kernel_rfl)) ?_
  intro W base args ds gs before hval0 hW hcnd _
  have hval : ∀ (j : Nat) t v, Try.f9.params[j]? = some t → args[j]? = some v → Value.okWide Try.prog W .any base t v := hval0
  have hW' := hW
  obtain ⟨p, q, hA0, hV, rfl, hfz, hnd⟩ := hW
  have hA : DataW.TrodAll enc Try.prog W 0 (fun _ => true) true Try.f9.params.toList args.toList ds p := hA0
  obtain ⟨rfl, rfl⟩ := trodVars_none hV
  have hAk := hA
  rw [Try.params9] at hA hval
  obtain ⟨v0, vs0, d0, ds0, p0, q0, hargs, rfl, rfl, h0, r0⟩ := trodAll_cons hA
  obtain ⟨v1, vs1, d1, ds1, p1, q1, rfl, rfl, rfl, h1, r1⟩ := trodAll_cons r0
  obtain ⟨v2, vs2, d2, ds2, p2, q2, rfl, rfl, rfl, h2, r2⟩ := trodAll_cons r1
  obtain ⟨rfl, rfl, rfl⟩ := trodAll_nil r2
  obtain rfl : args = #[v0, v1, v2] := by cases args; simp_all
  obtain ⟨ct, rfl, rfl, rfl, w0⟩ := open_int Try.underlying5 (hval 1 5 v1 rfl rfl) h1
  have kct := bounds_u8 w0
  obtain ⟨tn, rfl, rfl, rfl, w1⟩ := open_int Try.underlying5 (hval 2 5 v2 rfl rfl) h2
  have ktn := bounds_u8 w1
  obtain ⟨s, len, cap, rfl⟩ := okWide_slice Try.underlying37 (hval 0 37 v0 rfl rfl)
  obtain ⟨fuel, hf⟩ := h0
  have hc : Try.prog.cellsOf 2 = 1 := by kernel_rfl
  obtain ⟨xs, R, hlc, hcm, hx⟩ : ∃ xs : List Int, Ri W s len cap xs ∧ len ≤ cap ∧ cap ≤ 9223372036854775807 ∧ (∀ x ∈ xs, -9223372036854775808 ≤ x ∧ x ≤ 9223372036854775807) := by
    rcases open_ints Try.underlying37 Try.underlying2 hc hf with ⟨hcs, hx⟩ | ⟨p, len', cap', zs, hcs, _, hle, hmax, hall, hx, cell, wf⟩
    · simp [Value.cells] at hcs
      obtain ⟨rfl, rfl, rfl⟩ := hcs
      exact ⟨[], ⟨rfl, by decide, fun h => absurd h (by decide)⟩, by decide, by decide, fun x m => by cases m⟩
    · simp [Value.cells] at hcs
      obtain ⟨rfl, rfl, rfl⟩ := hcs
      simp only [if_true] at hall
      have hm : cap ≤ 9223372036854775807 := by simpa [maxLen] using hmax
      refine ⟨zs.take len, ⟨by rw [List.length_take, hall]; omega, by omega, fun _ => ⟨p, rfl, fun k hk => ?_⟩⟩, hle, hm, fun x m => bounds_i64 (wf x (List.mem_of_mem_take m))⟩
      rw [List.getD_eq_getElem?_getD, List.getElem?_take_of_lt hk, ← List.getD_eq_getElem?_getD]
      exact cell k (by omega)
  clear hA0 hval0
  simp only [List.append_nil] at hW' hAk
  refine (law_morder s len cap xs ct tn kct W R).mono fun e W' ⟨he, hb⟩ => ?_
  subst he
  exact ⟨_, rfl, law_post rfl rfl Try.underlying4 hW' hAk (of_decide_eq_true (by kernel_rfl)) rfl rfl rfl hb⟩

/-- The statement. -/
theorem proved : Rows.MarginOrderSaid :=
  OpenClaim.holds_of_wide 9 Try.f9 rfl rfl rfl rfl rfl rfl rfl ⟨rfl, rfl, rfl, rfl, rfl⟩ rfl rfl rfl rfl rfl (by kernel_rfl) Try.func9 (by kernel_rfl)
    (of_decide_eq_true (by kernel_rfl)) (by unfold Func.isWrapper; first | (rw [if_pos (by decide +kernel)]; kernel_rfl) | (rw [if_neg (by decide +kernel)]; exact ⟨rfl, rfl⟩))
    (fun os started H enc _ => lifted os started H enc)
#print axioms proved
end Go.Proofs.Ytmelbgabiklojaa.marginOrder
