/- ShareMerged: for any int32, any list of uint16 and any uint8 the law returns true, and its arguments read as they did. No condition. -/
import Derived.Test.YtlkpegfbnmecpaaLawShare3
import Derived.Test.YtlkpegfbnmecpaaLawKit
import Derived.Test.YtlkpegfbnmecpaaJoinA
namespace Go.Proofs.Ytlkpegfbnmecpaa.shareMerged
open Go.ChangeShapes Go.WideShapes Go.ChangeAt Go.RowKit Go.WideMaps
set_option linter.unusedVariables false
set_option maxRecDepth 100000 in
theorem lifted (os : Os) (started : os.Started) (H : Type) (enc : TypeId × Value → H) :
    ReturnsInHanded {} Try.checked os 6 .any (Rows.shareMergedSpec.pre6 enc Try.prog Try.f6 Rows.shareMergedRow.domain false) (Rows.shareMergedSpec.post enc Try.prog Try.f6 false true false false) := by
  refine returnsInHanded_of_change (C := Try.checked) Try.own started (by kernel_rfl) Try.func6
    (ChangeSpec.witness6 (enc := enc) (C := Try.checked) false ⟨#[], #[.int .i32 0, .slice none 0 0, .int .u8 0], []⟩ 8 (by kernel_rfl) (by kernel_rfl) (by kernel_rfl) (by kernel_rfl)) ?_
  intro W base args ds gs before hval0 hW hcnd _
  have hval : ∀ (j : Nat) t v, Try.f6.params[j]? = some t → args[j]? = some v → Value.okWide Try.prog W .any base t v := hval0
  have hW' := hW
  obtain ⟨p, q, hA0, hV, rfl, hfz, hnd⟩ := hW
  have hA : DataW.TrodAll enc Try.prog W 0 (fun _ => true) true Try.f6.params.toList args.toList ds p := hA0
  obtain ⟨rfl, rfl⟩ := trodVars_none hV
  have hAk := hA
  rw [Try.params6] at hA hval
  obtain ⟨v0, vs0, d0, ds0, p0, q0, hargs, rfl, rfl, h0, r0⟩ := trodAll_cons hA
  obtain ⟨v1, vs1, d1, ds1, p1, q1, rfl, rfl, rfl, h1, r1⟩ := trodAll_cons r0
  obtain ⟨v2, vs2, d2, ds2, p2, q2, rfl, rfl, rfl, h2, r2⟩ := trodAll_cons r1
  obtain ⟨rfl, rfl, rfl⟩ := trodAll_nil r2
  obtain rfl : args = #[v0, v1, v2] := by cases args; simp_all
  obtain ⟨T, rfl, rfl, rfl, w0⟩ := open_int Try.underlying21 (hval 0 21 v0 rfl rfl) h0
  have kT := bounds_i32 w0
  obtain ⟨at_, rfl, rfl, rfl, w2⟩ := open_int Try.underlying5 (hval 2 5 v2 rfl rfl) h2
  have kat_ := bounds_u8 w2
  obtain ⟨sxs, lenxs, capxs, rfl⟩ := okWide_slice Try.underlying33 (hval 1 33 v1 rfl rfl)
  obtain ⟨fuelxs, hfxs⟩ := h1
  have hcxs : Try.prog.cellsOf 75 = 1 := by kernel_rfl
  obtain ⟨xs, Rxs, hlxs, hmxs, hxxs⟩ : ∃ xs : List Int, RiK .u16 W sxs lenxs capxs xs ∧ lenxs ≤ capxs ∧ capxs ≤ 9223372036854775807 ∧ (∀ x ∈ xs, 0 ≤ x ∧ x ≤ 65535) := by
    rcases open_ints Try.underlying33 Try.underlying75 hcxs hfxs with ⟨hcs, hx⟩ | ⟨p, len', cap', zs, hcs, _, hle, hmax, hall, hx, cell, wf⟩
    · simp [Value.cells] at hcs
      obtain ⟨rfl, rfl, rfl⟩ := hcs
      exact ⟨[], ⟨rfl, by decide, fun h => absurd h (by decide)⟩, by decide, by decide, fun x m => by cases m⟩
    · simp [Value.cells] at hcs
      obtain ⟨rfl, rfl, rfl⟩ := hcs
      simp only [if_true] at hall
      have hm : capxs ≤ 9223372036854775807 := by simpa [maxLen] using hmax
      refine ⟨zs.take lenxs, ⟨by rw [List.length_take, hall]; omega, by omega, fun _ => ⟨p, rfl, fun k hk => ?_⟩⟩, hle, hm, fun x m => bounds_u16 (wf x (List.mem_of_mem_take m))⟩
      rw [List.getD_eq_getElem?_getD, List.getElem?_take_of_lt hk, ← List.getD_eq_getElem?_getD]
      exact cell k (by omega)
  clear hA0 hval0
  simp only [List.append_nil] at hW' hAk
  refine (law_merged sxs lenxs capxs xs T at_ W Rxs hxxs kT kat_).mono fun e W' ⟨he, hb⟩ => ?_
  subst he
  exact ⟨_, rfl, law_post rfl rfl Try.underlying4 hW' hAk (of_decide_eq_true (by kernel_rfl)) rfl rfl rfl hb⟩

/-- The statement. -/
theorem proved : Rows.ShareMergedSaid :=
  OpenClaim.holds_of_wide 6 Try.f6 rfl rfl rfl rfl rfl rfl rfl ⟨rfl, rfl, rfl, rfl, rfl⟩ rfl rfl rfl rfl rfl (by kernel_rfl) Try.func6 (by kernel_rfl)
    (of_decide_eq_true (by kernel_rfl)) (by unfold Func.isWrapper; first | (rw [if_pos (by decide +kernel)]; kernel_rfl) | (rw [if_neg (by decide +kernel)]; exact ⟨rfl, rfl⟩))
    (fun os started H enc _ => lifted os started H enc)
#print axioms proved
end Go.Proofs.Ytlkpegfbnmecpaa.shareMerged
